/- Lists of offers marked from any number on. -/
import Derived.Test.YtjjdfniemlcnnaaAll6
import Derived.Test.YtjjdfniemlcnnaaI13b
import Derived.Test.YtjjdfniemlcnnaaMark8
/- What was heard from a peer, plain; routes of one's own. -/
namespace Go.Proofs.Ytjjdfniemlcnnaa
open Go.RowKit

/-- An offer as a route. -/
def rtOf (ad ln : Int) (t : Oc) : Ro := ⟨ad, ln, t.o, t.nx, t.md, t.pf, t.n0, t.f, t.n1, t.g⟩
def hfI (x : Int) (n : Nat) (U : Nat → Rc) : List Nat := (List.range n).filter (fun i => foB (U i).n (U i).T x)
/-- What was heard from peer x. -/
def hfL (x : Int) (n : Nat) (U : Nat → Rc) : List Ro := (hfI x n U).map (fun i => rtOf (U i).ad (U i).ln (foT (U i).n (U i).T x))
theorem hfI_succ (x : Int) (n : Nat) (U : Nat → Rc) : hfI x (n + 1) U = hfI x n U ++ (if foB (U n).n (U n).T x = true then [n] else []) := by
  unfold hfI
  rw [List.range_succ, List.filter_append]
  congr 1
  by_cases e : foB (U n).n (U n).T x = true
  · simp [e]
  · simp [e]
theorem hf_yes {x : Int} {n : Nat} {U : Nat → Rc} (h : foB (U n).n (U n).T x = true) : hfL x (n + 1) U = hfL x n U ++ [rtOf (U n).ad (U n).ln (foT (U n).n (U n).T x)] := by
  unfold hfL
  rw [hfI_succ, if_pos h]
  simp
theorem hf_no {x : Int} {n : Nat} {U : Nat → Rc} (h : foB (U n).n (U n).T x = false) : hfL x (n + 1) U = hfL x n U := by
  unfold hfL
  rw [hfI_succ, if_neg (by rw [h]; simp)]
  simp
theorem hf_len (x : Int) (n : Nat) (U : Nat → Rc) : (hfL x n U).length ≤ n := by
  unfold hfL hfI
  have := List.length_filter_le (fun i => foB (U i).n (U i).T x) (List.range n)
  simpa using this
/-- What HeardFrom answers. -/
def heB (ow : Int) (n : Nat) (U : Nat → Rc) (x : Int) : Bool := rbB ow n U && inB x 0 5
def heL (ow : Int) (n : Nat) (U : Nat → Rc) (x : Int) : List Ro := if heB ow n U x = true then hfL x n U else []
theorem he_no {ow : Int} {n : Nat} {U : Nat → Rc} {x : Int} (h : heB ow n U x = false) : heL ow n U x = [] := by simp [heL, h]
theorem he_yes {ow : Int} {n : Nat} {U : Nat → Rc} {x : Int} (h : heB ow n U x = true) : heL ow n U x = hfL x n U := by simp [heL, h]
/-- A route of its own, newer than z. -/
def NewG (z : Nat) (t : Ro) (w : World) (q : Rge) : Prop := q.t = t ∧ q.a0 = some ⟨bxG q, 0, none⟩ ∧ q.a1 = some ⟨byG q, 0, none⟩ ∧ z ≤ bxG q ∧ bxG q < byG q ∧ OutInt (bxG q) q.t.n0 q.t.n0 q.t.f w ∧ OutInt (byG q) q.t.n1 q.t.n1 q.t.g w
theorem LsG.base {base base' : Nat} {v : Value} {M : List Rge} {w : World} (h : LsG base v M w) (hb : base' ≤ base) : LsG base' v M w := by
  refine ⟨ownH_base h.1 hb, fun e he => ?_, h.2.2⟩
  obtain ⟨k1, k2, k3, k4, k5, k6, k7, k8⟩ := h.2.1 e he
  exact ⟨k1, k2, by omega, k4, k5, k6, k7, k8⟩
end Go.Proofs.Ytjjdfniemlcnnaa

namespace Go.Proofs.Ytjjdfniemlcnnaa
open Go.RowKit

/-- The first mark of offer k. -/
def kmQ (q : Nat) (T : Nat → Oc) (k : Nat) : Nat := q + 5 * k + totO T k
theorem kmQ_succ (q : Nat) (T : Nat → Oc) (k : Nat) : ((kmQ q T (k + 1) : Nat) : Int) = (kmQ q T k : Int) + 1 + 1 + ((T k).n0 : Int) + 1 + 1 + 1 + ((T k).n1 : Int) := by
  unfold kmQ
  have h2 : totO T (k + 1) = totO T k + (T k).tot := rfl
  have h3 : (T k).tot = (T k).n0 + (T k).n1 := rfl
  omega
theorem kmQ_le (q : Nat) (T : Nat → Oc) {k n : Nat} (h : k ≤ n) (hn : n ≤ 1048576) (ht : totO T n ≤ 1048576) : kmQ q T k ≤ q + 10000000 := by
  unfold kmQ
  have := totO_mono T h
  omega
/-- The first k offers marked. -/
def halfQ (q : Nat) (T : Nat → Oc) (k : Nat) (i : Nat) : Oc := if i < k then mkO (kmQ q T i : Int) (T i) else T i
theorem halfQ_lt {q : Nat} {T : Nat → Oc} {k i : Nat} (h : i < k) : halfQ q T k i = mkO (kmQ q T i : Int) (T i) := if_pos h
theorem halfQ_ge {q : Nat} {T : Nat → Oc} {k i : Nat} (h : ¬ i < k) : halfQ q T k i = T i := if_neg h
theorem halfQ_zero (q : Nat) (T : Nat → Oc) : halfQ q T 0 = T := by
  funext i
  exact halfQ_ge (by omega)
theorem halfQ_other {q : Nat} {T : Nat → Oc} {k i : Nat} (h : i ≠ k) : halfQ q T (k + 1) i = halfQ q T k i := by
  unfold halfQ
  by_cases e : i < k
  · rw [if_pos e, if_pos (by omega)]
  · rw [if_neg e, if_neg (by omega)]
theorem RowOA.stepQ {q c n : Nat} {X Y K L : Nat → Nat} {T : Nat → Oc} {k : Nat} {w : World} (h : OthO c n X Y K L (halfQ q T k) k w)
    (M : MutO w c (k * 7) (ovO (mkO (kmQ q T k : Int) (T k)) (X k) (K k) (Y k) (L k))) (o1 : OutInt (X k) (T k).n0 (T k).n0 (fun j => (kmQ q T k : Int) + 1 + 1 + (j : Int)) w)
    (o2 : OutInt (Y k) (T k).n1 (T k).n1 (fun j => (kmQ q T k : Int) + 1 + 1 + ((T k).n0 : Int) + 1 + 1 + 1 + (j : Int)) w) : RowOA c n X Y K L (halfQ q T (k + 1)) w := by
  intro i hi
  unfold OneOA
  by_cases e : i = k
  · subst e
    rw [halfQ_lt (Nat.lt_succ_self i)]
    exact ⟨M, o1, o2⟩
  · rw [halfQ_other e]
    exact h i hi e
set_option maxRecDepth 100000 in
set_option maxHeartbeats 3200000 in
theorem w_markOfferSq (q c n cap : Nat) (X Y K L : Nat → Nat) (T : Nat → Oc) (w : World) (hq : q ≤ 100000000) (hn : n ≤ 1048576) (ht : totO T n ≤ 1048576) (hs : SepO c n X Y) (hR : RowOA c n X Y K L T w) :
    Calls Try.prog 57 #[.slice (some ⟨c, 0, none⟩) n cap, .int .i64 (q : Int)] w fun e w' => e = .returned (.int .i64 (kmQ q T n : Int)) ∧ RowOA c n X Y K L (halfQ q T n) w' ∧ OnlyS (BlkO c n X Y) w w' := by
  go_enter Try.func57, Try.ntmps57
  go_wp2_with fail
  go_loopw [1, 5] (fun x y wr => ∃ k : Nat, x = .int .i64 (kmQ q T k : Int) ∧ y = .int .i64 k ∧ k ≤ n ∧ RowOA c n X Y K L (halfQ q T k) wr ∧ OnlyS (BlkO c n X Y) w wr) (fun _ y _ => n - (intOf y).toNat)
  case atStart => exact ⟨0, by simp [kmQ, totO], rfl, Nat.zero_le _, by rw [halfQ_zero]; exact hR, OnlyS.refl _ _⟩
  case round =>
    clear hR
    obtain ⟨k, rfl, rfl, hk, RA, OS⟩ := hrel
    by_cases hlt : k < n
    · have hlt' : (k : Int) < (n : Int) := by omega
      have hko := kmQ_le q T (Nat.le_of_lt hlt) hn ht
      have hks := hide (kmQ_succ q T k)
      have hOth : OthO c n X Y K L (halfQ q T k) k wr := fun i hi _ => RA i hi
      obtain ⟨M, o1, o2⟩ := RA k hlt
      rw [halfQ_ge (Nat.lt_irrefl k)] at M o1 o2
      have hfin := hide (fun w h M o1 o2 => RowOA.stepQ (q := q) (c := c) (n := n) (X := X) (Y := Y) (K := K) (L := L) (T := T) (k := k) (w := w) h M o1 o2)
      have hlo : (T k).n0 ≤ 1048576 ∧ (T k).n1 ≤ 1048576 := lowO_of ht k hlt
      have bc : BlkO c n X Y c := Or.inl rfl
      have bx : BlkO c n X Y (X k) := Or.inr ⟨k, hlt, Or.inl rfl⟩
      have byy : BlkO c n X Y (Y k) := Or.inr ⟨k, hlt, Or.inr rfl⟩
      obtain ⟨s1, s2, s3, _⟩ := hs k hlt
      have hX := hide (fun w w' (h : OthO c n X Y K L (halfQ q T k) k w) (b : Only (X k) w w') => h.onlyX hs hlt b)
      have hY := hide (fun w w' (h : OthO c n X Y K L (halfQ q T k) k w) (b : Only (Y k) w w') => h.onlyY hs hlt b)
      have hSt := hide (fun w (h : OthO c n X Y K L (halfQ q T k) k w) j hj v => h.set hs j hj v)
      generalize OthO c n X Y K L (halfQ q T k) k = OT at *
      generalize BlkO c n X Y = BK at *
      generalize X k = x at *
      generalize Y k = y at *
      generalize K k = kx at *
      generalize L k = ly at *
      generalize kmQ q T k = km at *
      generalize T k = t at *
      obtain ⟨hl0, hl1⟩ := hlo
      have MI := hide (fun w O => w_markIntS x t.n0 kx t.f ((km : Int) + 1 + 1) w (by omega) (by omega) (by omega) O)
      have MJ := hide (fun w O => w_markIntS y t.n1 ly t.g ((km : Int) + 1 + 1 + (t.n0 : Int) + 1 + 1 + 1) w (by omega) (by omega) (by omega) O)
      clear RA hs ht
      have m0 := M.2.1 0 _ rfl
      have m1 := M.2.1 1 _ rfl
      have m2 := M.2.1 2 _ rfl
      have z0 := M.2.2 0 (by simp [ovO])
      have z1 := M.2.2 1 (by simp [ovO])
      simp only [Nat.add_zero] at m0 z0
      go_wp2_with fail
      have M1 := (M.set 0 (.int .i64 (km : Int))).set 1 (.int .i64 ((km : Int) + 1))
      have O1 := hSt.out _ (hSt.out _ hOth 0 (by omega) (.int .i64 (km : Int))) 1 (by omega) (.int .i64 ((km : Int) + 1))
      have S1 := (OS.set bc (k * 7 + 0) (.int .i64 (km : Int))).set bc (k * 7 + 1) (.int .i64 ((km : Int) + 1))
      have p1 := (o1.other s1 (k * 7 + 0) (.int .i64 (km : Int))).other s1 (k * 7 + 1) (.int .i64 ((km : Int) + 1))
      have p2 := (o2.other s2 (k * 7 + 0) (.int .i64 (km : Int))).other s2 (k * 7 + 1) (.int .i64 ((km : Int) + 1))
      simp only [Nat.add_zero] at M1 O1 S1 p1 p2
      generalize (wr.setCell ⟨c, k * 7, none⟩ (.int .i64 (km : Int))).setCell ⟨c, k * 7 + 1, none⟩ (.int .i64 ((km : Int) + 1)) = w1 at *
      clear m0 m1 m2 z0 z1 M o1 o2 hOth OS
      refine (MI.out _ p1).mono ?_
      rintro e w2 ⟨rfl, b2, p1⟩
      replace p2 := p2.only b2 (fun e => s3 e.symm)
      replace M1 := M1.only b2 (fun e => s1 e.symm)
      replace O1 := hX.out _ _ O1 b2
      replace S1 := S1.trans (OnlyS.of_only b2 bx)
      clear b2 MI
      have m3 := M1.2.1 3 _ rfl
      have m4 := M1.2.1 4 _ rfl
      have m5 := M1.2.1 5 _ rfl
      have m6 := M1.2.1 6 _ rfl
      have z3 := M1.2.2 3 (by simp [ovO])
      have z4 := M1.2.2 4 (by simp [ovO])
      have z5 := M1.2.2 5 (by simp [ovO])
      go_wp2_with fail
      have M2 := ((M1.set 3 (.int .i64 ((km : Int) + 1 + 1 + (t.n0 : Int)))).set 4 (.int .i64 ((km : Int) + 1 + 1 + (t.n0 : Int) + 1))).set 5 (.int .i64 ((km : Int) + 1 + 1 + (t.n0 : Int) + 1 + 1))
      have O2 := hSt.out _ (hSt.out _ (hSt.out _ O1 3 (by omega) (.int .i64 ((km : Int) + 1 + 1 + (t.n0 : Int)))) 4 (by omega) (.int .i64 ((km : Int) + 1 + 1 + (t.n0 : Int) + 1))) 5 (by omega) (.int .i64 ((km : Int) + 1 + 1 + (t.n0 : Int) + 1 + 1))
      have S2 := ((S1.set bc (k * 7 + 3) (.int .i64 ((km : Int) + 1 + 1 + (t.n0 : Int)))).set bc (k * 7 + 4) (.int .i64 ((km : Int) + 1 + 1 + (t.n0 : Int) + 1))).set bc (k * 7 + 5) (.int .i64 ((km : Int) + 1 + 1 + (t.n0 : Int) + 1 + 1))
      replace p1 := ((p1.other s1 (k * 7 + 3) (.int .i64 ((km : Int) + 1 + 1 + (t.n0 : Int)))).other s1 (k * 7 + 4) (.int .i64 ((km : Int) + 1 + 1 + (t.n0 : Int) + 1))).other s1 (k * 7 + 5) (.int .i64 ((km : Int) + 1 + 1 + (t.n0 : Int) + 1 + 1))
      replace p2 := ((p2.other s2 (k * 7 + 3) (.int .i64 ((km : Int) + 1 + 1 + (t.n0 : Int)))).other s2 (k * 7 + 4) (.int .i64 ((km : Int) + 1 + 1 + (t.n0 : Int) + 1))).other s2 (k * 7 + 5) (.int .i64 ((km : Int) + 1 + 1 + (t.n0 : Int) + 1 + 1))
      generalize ((w2.setCell ⟨c, k * 7 + 3, none⟩ (.int .i64 ((km : Int) + 1 + 1 + (t.n0 : Int)))).setCell ⟨c, k * 7 + 4, none⟩ (.int .i64 ((km : Int) + 1 + 1 + (t.n0 : Int) + 1))).setCell ⟨c, k * 7 + 5, none⟩ (.int .i64 ((km : Int) + 1 + 1 + (t.n0 : Int) + 1 + 1)) = w3 at *
      clear m3 m4 m5 m6 z3 z4 z5 M1 O1 S1
      refine (MJ.out _ p2).mono ?_
      rintro e w4 ⟨rfl, b4, p2⟩
      replace p1 := p1.only b4 s3
      replace M2 := M2.only b4 (fun e => s2 e.symm)
      replace O2 := hY.out _ _ O2 b4
      replace S2 := S2.trans (OnlyS.of_only b4 byy)
      clear b4 MJ hX hY hSt
      go_wp2_with fail
      exact ⟨⟨k + 1, by rw [hks.out], by go_num, by omega, hfin.out _ O2 M2 p1 p2, S2⟩, by simp [intOf]; omega⟩
    · have hlt' : ¬ (k : Int) < (n : Int) := by omega
      obtain rfl : k = n := by omega
      go_wp2_with fail
      go_ret
      exact ⟨rfl, RA, OS⟩
set_option maxRecDepth 100000 in
set_option maxHeartbeats 3200000 in
theorem w_heldOfferSq (q : Nat) (a : Option Addr) (n cap : Nat) (T : Nat → Oc) (w : World) (hq : q ≤ 100000000) (hn : n ≤ 1048576) (ht : totO T n ≤ 1048576) (hR : RowO a n (halfQ q T n) w) :
    Calls Try.prog 58 #[.slice a n cap, .int .i64 (q : Int)] w fun e w' => e = .returned (.int .i64 (kmQ q T n : Int)) ∧ Below w.heap.size w w' := by
  go_enter Try.func58, Try.ntmps58
  go_wp2_with fail
  go_loopw [1, 5] (fun x y wr => ∃ k : Nat, x = .int .i64 (kmQ q T k : Int) ∧ y = .int .i64 k ∧ k ≤ n ∧ Below w.heap.size w wr) (fun _ y _ => n - (intOf y).toNat)
  case atStart => exact ⟨0, by simp [kmQ, totO], rfl, Nat.zero_le _, Below.refl _ _⟩
  case round =>
    obtain ⟨k, rfl, rfl, hk, hb⟩ := hrel
    by_cases hlt : k < n
    · have hlt' : (k : Int) < (n : Int) := by omega
      have hko := kmQ_le q T (Nat.le_of_lt hlt) hn ht
      have hks := hide (kmQ_succ q T k)
      have hlo : (T k).n0 ≤ 1048576 ∧ (T k).n1 ≤ 1048576 := lowO_of ht k hlt
      obtain ⟨b, off, a0, c0, a1, c1, rfl, hbw, u0, u1, u2, u3, u4, u5, u6, hin⟩ := hR k hlt
      replace u0 := (hb.cell (p := ⟨b, off + k * 7, none⟩) hbw).trans u0
      replace u1 := (hb.cell (p := ⟨b, off + k * 7 + 1, none⟩) hbw).trans u1
      replace u2 := (hb.cell (p := ⟨b, off + k * 7 + 2, none⟩) hbw).trans u2
      replace u3 := (hb.cell (p := ⟨b, off + k * 7 + 3, none⟩) hbw).trans u3
      replace u4 := (hb.cell (p := ⟨b, off + k * 7 + 4, none⟩) hbw).trans u4
      replace u5 := (hb.cell (p := ⟨b, off + k * 7 + 5, none⟩) hbw).trans u5
      replace u6 := (hb.cell (p := ⟨b, off + k * 7 + 6, none⟩) hbw).trans u6
      rw [halfQ_lt hlt] at u0 u1 u2 u3 u4 u5 u6 hin
      generalize kmQ q T k = km at *
      generalize T k = t at *
      obtain ⟨hl0, hl1⟩ := hlo
      have HI := hide (fun w R => w_heldIntS a0 t.n0 c0 ((km : Int) + 1 + 1) w (by omega) (by omega) (by omega) R)
      have HJ := hide (fun w R => w_heldIntS a1 t.n1 c1 ((km : Int) + 1 + 1 + (t.n0 : Int) + 1 + 1 + 1) w (by omega) (by omega) (by omega) R)
      have i0 := hide (hin.1.below hb)
      have i1 := hide (hin.2.below hb)
      simp only [mkO] at u0 u1 u2 u3 u4 u5 u6
      have e0 : ((km : Int) != (km : Int)) = false := by simp
      have e1 : ((km : Int) + 1 != (km : Int) + 1) = false := by simp
      have e3 : ((km : Int) + 1 + 1 + (t.n0 : Int) != (km : Int) + 1 + 1 + (t.n0 : Int)) = false := by simp
      have e4 : ((km : Int) + 1 + 1 + (t.n0 : Int) + 1 != (km : Int) + 1 + 1 + (t.n0 : Int) + 1) = false := by simp
      have e5 : ((km : Int) + 1 + 1 + (t.n0 : Int) + 1 + 1 != (km : Int) + 1 + 1 + (t.n0 : Int) + 1 + 1) = false := by simp
      have g2 : ¬ ((km : Int) + 1 + 1 + (t.n0 : Int) < 0) := by omega
      have g6 : ¬ ((km : Int) + 1 + 1 + (t.n0 : Int) + 1 + 1 + 1 + (t.n1 : Int) < 0) := by omega
      clear hR hin
      go_wp2_with fail
      refine (HI.out _ i0.out).mono ?_
      rintro e w2 ⟨rfl, rfl⟩
      go_wp2_with fail
      refine (HJ.out _ i1.out).mono ?_
      rintro e w3 ⟨rfl, rfl⟩
      go_wp2_with fail
      exact ⟨⟨k + 1, by rw [hks.out], by go_num, by omega, hb⟩, by simp [intOf]; omega⟩
    · have hlt' : ¬ (k : Int) < (n : Int) := by omega
      obtain rfl : k = n := by omega
      go_wp2_with fail
      go_ret
      exact ⟨rfl, hb⟩
end Go.Proofs.Ytjjdfniemlcnnaa
