/- keptRows of the program: rows as they are worked with. -/
import Derived.Test.YtjjdfniemlcnnaaAll7
import Derived.Test.YtjjdfniemlcnnaaMemJ
/- What the program's functions of chapter 1 answer: order, parents, halves, siblings. -/
namespace Go.Proofs.Ytjjdfniemlcnnaa
open Go.RowKit

theorem c_isNaN (x : Int) (w : World) :
    Calls Try.prog 97 #[.int .i64 x] w fun e w' => e = .returned (.bool false) ∧ w' = w := by
  go_enter Try.func97, Try.ntmps97
  go_wp2
  go_ret
  exact ⟨ret_bool (by simp), rfl⟩

set_option maxHeartbeats 800000 in
theorem c_compare (x y : Int) (w : World) :
    Calls Try.prog 91 #[.int .i64 x, .int .i64 y] w fun e w' => e = .returned (.int .i64 (cmpI x y)) ∧ w' = w := by
  by_cases h1 : x < y
  · have e1 : cmpI x y = -1 := by unfold cmpI; rw [if_pos h1]
    rw [e1]
    clear e1
    go_enter Try.func91, Try.ntmps91
    go_wp2_with (go_at_call 97; refine (c_isNaN _ _).mono ?_; rintro e w' ⟨rfl, rfl⟩)
    go_ret
    exact ⟨rfl, rfl⟩
  · by_cases h2 : y < x
    · have e1 : cmpI x y = 1 := by unfold cmpI; rw [if_neg h1, if_pos h2]
      rw [e1]
      clear e1
      go_enter Try.func91, Try.ntmps91
      go_wp2_with (go_at_call 97; refine (c_isNaN _ _).mono ?_; rintro e w' ⟨rfl, rfl⟩)
      go_ret
      exact ⟨rfl, rfl⟩
    · have e1 : cmpI x y = 0 := by unfold cmpI; rw [if_neg h1, if_neg h2]
      rw [e1]
      clear e1
      go_enter Try.func91, Try.ntmps91
      go_wp2_with (go_at_call 97; refine (c_isNaN _ _).mono ?_; rintro e w' ⟨rfl, rfl⟩)
      go_ret
      exact ⟨rfl, rfl⟩

set_option maxHeartbeats 800000 in
theorem i_compare (a l b m : Int) (w : World) :
    Calls Try.prog 79 #[.agg #[.int .i64 a, .int .i64 l], .agg #[.int .i64 b, .int .i64 m]] w fun e w' =>
      e = .returned (.tuple #[.int .i64 (if goodB a l && goodB b m then cmpP a l b m else 0), .bool (goodB a l && goodB b m)]) ∧ Below w.heap.size w w' := by
  have s1 := hide (fun w => i_good a l w)
  have s2 := hide (fun w => i_good b m w)
  generalize goodB a l = g1 at s1 ⊢
  generalize goodB b m = g2 at s2 ⊢
  cases g1
  · go_enter Try.func79, Try.ntmps79
    go_wp2_with fail
    refine (s1.out _).mono ?_
    rintro e w1 ⟨rfl, hb1⟩
    go_wp2_with fail
    go_ret2
    exact ⟨rfl, below_box2 hb1⟩
  · cases g2
    · go_enter Try.func79, Try.ntmps79
      go_wp2_with fail
      refine (s1.out _).mono ?_
      rintro e w1 ⟨rfl, hb1⟩
      obtain ⟨hc, hf⟩ := bcell hb1
      go_wp2_with fail
      clear hc hf
      refine (s2.out _).mono ?_
      rintro e w2 ⟨rfl, hb2⟩
      go_wp2_with fail
      go_ret2
      exact ⟨rfl, below_box2 (below_step hb1 hb2)⟩
    · by_cases h : a = b
      · have e1 : (if (true && true) = true then cmpP a l b m else 0) = cmpI l m := by simp [cmpP, h]
        rw [e1]
        have z0 : (a != b) = false := by simp [h]
        clear e1 h
        have s3 := hide (fun w => c_compare l m w)
        generalize cmpI l m = r at s3 ⊢
        go_enter Try.func79, Try.ntmps79
        go_wp2_with fail
        refine (s1.out _).mono ?_
        rintro e w1 ⟨rfl, hb1⟩
        obtain ⟨hc, hf⟩ := bcell hb1
        go_wp2_with fail
        clear hc hf
        refine (s2.out _).mono ?_
        rintro e w2 ⟨rfl, hb2⟩
        have hb := below_step hb1 hb2
        clear hb1 hb2
        obtain ⟨hc, hf⟩ := bcell hb
        go_wp2_with fail
        refine (s3.out _).mono ?_
        rintro e w3 ⟨rfl, rfl⟩
        go_wp2_with fail
        go_ret2
        exact ⟨rfl, below_box2 hb⟩
      · have e1 : (if (true && true) = true then cmpP a l b m else 0) = cmpI a b := by simp [cmpP, h]
        rw [e1]
        have z0 : (a != b) = true := by simp [h]
        clear e1 h
        have s3 := hide (fun w => c_compare a b w)
        generalize cmpI a b = r at s3 ⊢
        go_enter Try.func79, Try.ntmps79
        go_wp2_with fail
        refine (s1.out _).mono ?_
        rintro e w1 ⟨rfl, hb1⟩
        obtain ⟨hc, hf⟩ := bcell hb1
        go_wp2_with fail
        clear hc hf
        refine (s2.out _).mono ?_
        rintro e w2 ⟨rfl, hb2⟩
        have hb := below_step hb1 hb2
        clear hb1 hb2
        obtain ⟨hc, hf⟩ := bcell hb
        go_wp2_with fail
        refine (s3.out _).mono ?_
        rintro e w3 ⟨rfl, rfl⟩
        go_wp2_with fail
        go_ret2
        exact ⟨rfl, below_box2 hb⟩

end Go.Proofs.Ytjjdfniemlcnnaa

/- What the program's functions of chapter 2 answer: values, order, tables. -/
namespace Go.Proofs.Ytjjdfniemlcnnaa
open Go.RowKit

set_option maxHeartbeats 400000 in
theorem i_value (n : Int) (w : World) :
    Calls Try.prog 88 #[.int .i64 n] w fun e w' => e = .returned (.bool (inB n 0 1000000)) ∧ w' = w := by
  by_cases h1 : 0 ≤ n
  · by_cases h2 : n ≤ 1000000
    · rw [inB_t h1 h2]
      go_enter Try.func88, Try.ntmps88
      go_wp2
      go_ret
      exact ⟨rfl, rfl⟩
    · rw [inB_f2 h2]
      go_enter Try.func88, Try.ntmps88
      go_wp2
      go_ret
      exact ⟨rfl, rfl⟩
  · rw [inB_f1 h1]
    go_enter Try.func88, Try.ntmps88
    go_wp2
    go_ret
    exact ⟨rfl, rfl⟩

set_option maxHeartbeats 800000 in
theorem i_before (a l b m : Int) (w : World) (hg1 : goodB a l = true) (hg2 : goodB b m = true) :
    Calls Try.prog 65 #[.agg #[.int .i64 a, .int .i64 l], .agg #[.int .i64 b, .int .i64 m]] w fun e w' =>
      e = .returned (.bool (decide (cmpP a l b m < 0))) ∧ Below w.heap.size w w' := by
  have s1 := hide (fun w => i_compare a l b m w)
  rw [hg1, hg2] at s1
  simp only [Bool.and_self, if_true] at s1
  clear hg1 hg2
  generalize cmpP a l b m = r at s1 ⊢
  go_enter Try.func65, Try.ntmps65
  go_wp2_with fail
  refine (s1.out _).mono ?_
  rintro e w1 ⟨rfl, hb1⟩
  go_wp2_with fail
  go_ret
  exact ⟨rfl, below_box2 hb1⟩

theorem all_good {f0 f1 f2 : Nat → Int} {m : Nat} (h : (List.range (m + 1)).all (entOk f0 f1 f2) = true) : goodB (f0 m) (f1 m) = true := by
  rw [List.all_eq_true] at h
  have h1 := h m (List.mem_range.2 (by omega))
  unfold entOk at h1
  rw [Bool.and_eq_true, Bool.and_eq_true] at h1
  exact h1.1.1
theorem tabB_over {f0 f1 f2 : Nat → Int} {n : Nat} (h : ¬ n ≤ 30) : tabB f0 f1 f2 n = false := by
  unfold tabB
  rw [show decide (n ≤ 30) = false by simpa using h, Bool.and_false]
theorem tabB_all {f0 f1 f2 : Nat → Int} {n : Nat} (h : n ≤ 30) (ha : (List.range n).all (entOk f0 f1 f2) = true) : tabB f0 f1 f2 n = true := by
  unfold tabB
  rw [show decide (n ≤ 30) = true by simpa using h, ha]; rfl
end Go.Proofs.Ytjjdfniemlcnnaa

namespace Go.Proofs.Ytjjdfniemlcnnaa
open Go.RowKit

/-- The rows of L say what U says. -/
def KeptOf (n : Nat) (U : Nat → Rc) (L : List Kr) (w : World) : Prop := L.length = n ∧ ∀ i, i < n → (jAt L i).1 = (U i).ad ∧ (jAt L i).2.1 = (U i).ln ∧ (jAt L i).2.2.2.1 = (U i).n ∧ RowO (jAt L i).2.2.1 (U i).n (U i).T w
theorem KeptOf.below {n : Nat} {U : Nat → Rc} {L : List Kr} {w w' : World} (h : KeptOf n U L w) (b : Below w.heap.size w w') : KeptOf n U L w' :=
  ⟨h.1, fun i hi => ⟨(h.2 i hi).1, (h.2 i hi).2.1, (h.2 i hi).2.2.1, (h.2 i hi).2.2.2.below b⟩⟩
theorem KeptOf.row {n : Nat} {U : Nat → Rc} {L : List Kr} {a : Option Addr} {w : World} (h : KeptOf n U L w) (hR : RowJ a L w) : RowR a n U w := by
  intro i hi
  obtain ⟨b, off, ha, hb, c0, c1, c2⟩ := hR i (by rw [h.1]; exact hi)
  obtain ⟨e0, e1, e2, hO⟩ := h.2 i hi
  rw [e0] at c0
  rw [e1] at c1
  rw [e2] at c2
  exact ⟨b, off, _, _, ha, hb, c0, c1, c2, hO⟩
theorem getD_mapR {α : Type} (f : Nat → α) (n : Nat) (d : α) {i : Nat} (h : i < n) : ((List.range n).map f).getD i d = f i := by
  rw [List.getD_eq_getElem?_getD, List.getElem?_eq_getElem (by simpa using h)]
  simp
theorem rowR_list {a : Option Addr} {n : Nat} {U : Nat → Rc} {w : World} (h : RowR a n U w) : ∃ L, KeptOf n U L w ∧ RowJ a L w := by
  have : ∀ i, ∃ q : Option Addr × Nat, i < n → ∃ (b off : Nat), a = some ⟨b, off, none⟩ ∧ b < w.heap.size ∧ w.cell? ⟨b, off + i * 3, none⟩ = some (.int .i64 (U i).ad) ∧ w.cell? ⟨b, off + i * 3 + 1, none⟩ = some (.int .i64 (U i).ln) ∧ w.cell? ⟨b, off + i * 3 + 2, none⟩ = some (.slice q.1 (U i).n q.2) ∧ RowO q.1 (U i).n (U i).T w := by
    intro i
    by_cases hi : i < n
    · obtain ⟨b, off, a0, c0, r⟩ := h i hi
      exact ⟨(a0, c0), fun _ => ⟨b, off, r⟩⟩
    · exact ⟨(none, 0), fun e => absurd e hi⟩
  obtain ⟨q, hq⟩ := Classical.axiomOfChoice this
  have hat : ∀ i, i < n → jAt ((List.range n).map fun i => ((U i).ad, (U i).ln, (q i).1, (U i).n, (q i).2)) i = ((U i).ad, (U i).ln, (q i).1, (U i).n, (q i).2) := fun i hi => getD_mapR _ _ _ hi
  refine ⟨(List.range n).map fun i => ((U i).ad, (U i).ln, (q i).1, (U i).n, (q i).2), ⟨by simp, fun i hi => ?_⟩, fun i hi => ?_⟩
  · rw [hat i hi]
    obtain ⟨b, off, r⟩ := hq i hi
    exact ⟨rfl, rfl, rfl, r.2.2.2.2.2⟩
  · have hi' : i < n := by simpa using hi
    rw [hat i hi']
    obtain ⟨b, off, r1, r2, r3, r4, r5, r6⟩ := hq i hi'
    exact ⟨b, off, r1, r2, r3, r4, r5⟩
set_option maxRecDepth 100000 in
set_option maxHeartbeats 3200000 in
theorem i_keptRows0 (ow : Int) (a : Option Addr) (n c : Nat) (L : List Kr) (w : World) (hn : n ≤ 1048576) (hLn : L.length = n) (hJ : RowJ a L w) :
    Calls Try.prog 37 #[.agg #[.int .i64 ow, .slice a n c]] w fun e w' => ∃ v, e = .returned v ∧ OwnJ w.heap.size v L w' ∧ Below w.heap.size w w' := by
  go_enter Try.func37, Try.ntmps37
  go_wp2_with fail
  go_loopw [3, 9] (fun v y wr => ∃ k : Nat, y = .int .i64 k ∧ k ≤ n ∧ OwnJ w.heap.size v (L.take k) wr ∧ Below w.heap.size w wr) (fun _ y _ => n - (intOf y).toNat)
  case atStart => exact ⟨0, rfl, Nat.zero_le _, ownJ_nil _ _, below_box (Below.refl _ _)⟩
  case round =>
    obtain ⟨k, rfl, hk, hO, hb⟩ := hrel
    by_cases hlt : k < n
    · have hlt' : (k : Int) < (n : Int) := by omega
      obtain ⟨b, off, rfl, hbw, u0, u1, u2⟩ := hJ k (by omega)
      replace u0 := (hb.cell (p := ⟨b, off + k * 3, none⟩) hbw).trans u0
      replace u1 := (hb.cell (p := ⟨b, off + k * 3 + 1, none⟩) hbw).trans u1
      replace u2 := (hb.cell (p := ⟨b, off + k * 3 + 2, none⟩) hbw).trans u2
      have hne := hide (take_succJ (show k < L.length by omega))
      have hfl : (L.take k).length ≤ 1048576 := by rw [List.length_take]; omega
      generalize jAt L k = e at *
      generalize L.take k = M at *
      have hO2 := hide (ownJ_below hO (below_box2 (o := .cells #[.int .i64 e.1, .int .i64 e.2.1, .slice e.2.2.1 e.2.2.2.1 e.2.2.2.2] 63) (o' := .cells #[.int .i64 e.1, .int .i64 e.2.1, .slice e.2.2.1 e.2.2.2.1 e.2.2.2.2] 71) (Below.refl _ _)))
      have d2 := hide (hb.trans ((below_box2 (o := .cells #[.int .i64 e.1, .int .i64 e.2.1, .slice e.2.2.1 e.2.2.2.1 e.2.2.2.2] 63) (o' := .cells #[.int .i64 e.1, .int .i64 e.2.1, .slice e.2.2.1 e.2.2.2.1 e.2.2.2.2] 71) (Below.refl _ _)).mono hb.size))
      have hs3 := hb.size
      clear hJ hO
      go_wp2_with (first | (at_builtin; refine wpList_appJ rfl _ _ rfl w.heap.size _ M rfl hO2.out (some ⟨wr.heap.size + 1, 0, none⟩) [e] 1 rfl ⟨RowJ.one (p := e) (by simp) (by simp [go_sem]) (by simp [go_sem]) (by simp [go_sem]), .inr ⟨_, _, rfl⟩⟩ (by simp only [List.length_cons, List.length_nil]; omega) (by simp; omega) ?_))
      intro v' w4 hO4 b4 _
      go_wp2_with fail
      exact ⟨⟨k + 1, by go_num, by omega, by rw [hne.out]; exact hO4, d2.out.trans b4⟩, by simp [intOf]; omega⟩
    · have hlt' : ¬ (k : Int) < (n : Int) := by omega
      obtain rfl : k = n := by omega
      have hT : L.take k = L := by rw [List.take_of_length_le (by omega)]
      rw [hT] at hO
      clear hJ
      go_wp2_with fail
      go_ret
      exact ⟨_, rfl, hO, hb⟩
theorem i_keptRows (ow : Int) (a : Option Addr) (n c : Nat) (U : Nat → Rc) (w : World) (hn : n ≤ 1048576) (hR : RowR a n U w) :
    Calls Try.prog 37 #[.agg #[.int .i64 ow, .slice a n c]] w fun e w' => ∃ v L, e = .returned v ∧ OwnJ w.heap.size v L w' ∧ KeptOf n U L w' ∧ Below w.heap.size w w' := by
  obtain ⟨L, hK, hJ⟩ := rowR_list hR
  refine (i_keptRows0 ow a n c L w hn hK.1 hJ).mono ?_
  rintro e w' ⟨v, rfl, hO, b⟩
  exact ⟨v, L, rfl, hO, hK.below b, b⟩
set_option maxHeartbeats 400000 in
theorem i_isGoodM (a l : Int) (w : World) :
    Calls Try.prog 38 #[.agg #[.int .i64 a, .int .i64 l]] w fun e w' => e = .returned (.bool (goodB a l)) ∧ Below w.heap.size w w' := by
  have s1 := hide (fun w => i_good a l w)
  go_enter Try.func38, Try.ntmps38
  go_wp2_with fail
  refine (s1.out _).mono ?_
  rintro e w1 ⟨rfl, hb1⟩
  go_wp2_with fail
  go_ret
  exact ⟨rfl, below_box hb1⟩
set_option maxHeartbeats 400000 in
theorem i_isAhead (a l b m : Int) (w : World) (hg1 : goodB a l = true) (hg2 : goodB b m = true) :
    Calls Try.prog 40 #[.agg #[.int .i64 a, .int .i64 l], .agg #[.int .i64 b, .int .i64 m]] w fun e w' => e = .returned (.bool (decide (cmpP a l b m < 0))) ∧ Below w.heap.size w w' := by
  have s1 := hide (fun w => i_before a l b m w hg1 hg2)
  clear hg1 hg2
  go_enter Try.func40, Try.ntmps40
  go_wp2_with fail
  refine (s1.out _).mono ?_
  rintro e w1 ⟨rfl, hb1⟩
  go_wp2_with fail
  go_ret
  exact ⟨rfl, below_box2 hb1⟩
end Go.Proofs.Ytjjdfniemlcnnaa
