/- Lists of routes in memory: read, compared, marked, looked at again. -/
import Derived.Test.YtlhdeeihpaogkaaMark8
import Derived.Test.YtlhdeeihpaogkaaFlatRoute
namespace Go.Proofs.Ytlhdeeihpaogkaa
open Go.RowKit

/-- What a route says. -/
structure Ro where
  pa : Int
  pl : Int
  o : Int
  nx : Int
  md : Int
  pf : Int
  n0 : Nat
  f : Nat → Int
  n1 : Nat
  g : Nat → Int
def Ro.tot (t : Ro) : Nat := t.n0 + t.n1
def ro0 : Ro := ⟨0, 0, 0, 0, 0, 0, 0, fun _ => 0, 0, fun _ => 0⟩
def totG (T : Nat → Ro) : Nat → Nat
  | 0 => 0
  | k + 1 => totG T k + (T k).tot
theorem totG_mono (T : Nat → Ro) {k n : Nat} (h : k ≤ n) : totG T k ≤ totG T n := by
  induction n with
  | zero => have : k = 0 := by omega
            subst this; exact Nat.le_refl _
  | succ n ih =>
    by_cases e : k = n + 1
    · subst e; exact Nat.le_refl _
    · exact Nat.le_trans (ih (by omega)) (Nat.le_add_right _ _)
def LowG (n : Nat) (T : Nat → Ro) : Prop := ∀ i, i < n → (T i).n0 ≤ 1048576 ∧ (T i).n1 ≤ 1048576
theorem lowG_of {T : Nat → Ro} {n : Nat} (h : totG T n ≤ 1048576) : LowG n T := by
  intro i hi
  have h1 := totG_mono T (show i + 1 ≤ n by omega)
  have h2 : totG T (i + 1) = totG T i + (T i).tot := rfl
  have h3 : (T i).tot = (T i).n0 + (T i).n1 := rfl
  omega
/-- Cells of block b from off on. -/
def CellsO (w : World) (b off : Nat) (vs : List Value) : Prop := b < w.heap.size ∧ ∀ i v, vs[i]? = some v → w.cell? ⟨b, off + i, none⟩ = some v
theorem CellsO.below {w w' : World} {b off : Nat} {vs : List Value} (h : CellsO w b off vs) (k : Below w.heap.size w w') : CellsO w' b off vs :=
  ⟨Nat.lt_of_lt_of_le h.1 k.size, fun i v hv => ((bcell k).1 _ _ h.1).trans (h.2 i v hv)⟩
/-- A route's cells. -/
def rvG (t : Ro) (a0 : Option Addr) (c0 : Nat) (a1 : Option Addr) (c1 : Nat) : List Value := [.int .i64 t.pa, .int .i64 t.pl, .int .i64 t.o, .slice a0 t.n0 c0, .int .i64 t.nx, .int .i64 t.md, .int .i64 t.pf, .slice a1 t.n1 c1]
/-- n routes at a. -/
def RowG (a : Option Addr) (n : Nat) (T : Nat → Ro) (w : World) : Prop := ∀ i, i < n → ∃ (b off : Nat) (a0 : Option Addr) (c0 : Nat) (a1 : Option Addr) (c1 : Nat), a = some ⟨b, off, none⟩ ∧ CellsO w b (off + i * 8) (rvG (T i) a0 c0 a1 c1) ∧ RowInt a0 (T i).n0 (T i).f w ∧ RowInt a1 (T i).n1 (T i).g w
theorem RowG.below {a : Option Addr} {n : Nat} {T : Nat → Ro} {w w' : World} (h : RowG a n T w) (k : Below w.heap.size w w') : RowG a n T w' := by
  intro i hi
  obtain ⟨b, off, a0, c0, a1, c1, ha, hC, h0, h1⟩ := h i hi
  exact ⟨b, off, a0, c0, a1, c1, ha, hC.below k, h0.below k, h1.below k⟩
/-- n routes in block c, their lists in blocks X, Y; all may be written. -/
def OneGA (c : Nat) (X Y K L : Nat → Nat) (T : Nat → Ro) (w : World) (i : Nat) : Prop := MutO w c (i * 8) (rvG (T i) (some ⟨X i, 0, none⟩) (K i) (some ⟨Y i, 0, none⟩) (L i)) ∧ OutInt (X i) (T i).n0 (T i).n0 (T i).f w ∧ OutInt (Y i) (T i).n1 (T i).n1 (T i).g w
def RowGA (c n : Nat) (X Y : Nat → Nat) (K L : Nat → Nat) (T : Nat → Ro) (w : World) : Prop := ∀ i, i < n → OneGA c X Y K L T w i
theorem RowGA.below {c n : Nat} {X Y K L : Nat → Nat} {T : Nat → Ro} {w w' : World} (h : RowGA c n X Y K L T w) (b : Below w.heap.size w w') : RowGA c n X Y K L T w' :=
  fun i hi => ⟨(h i hi).1.below b, (h i hi).2.1.below b, (h i hi).2.2.below b⟩
theorem RowGA.onlyS {P : Nat → Prop} {c n : Nat} {X Y K L : Nat → Nat} {T : Nat → Ro} {w w' : World} (h : RowGA c n X Y K L T w) (b : OnlyS P w w') (hn : ∀ k, BlkO c n X Y k → ¬ P k) : RowGA c n X Y K L T w' :=
  fun i hi => ⟨(h i hi).1.onlyS b (hn c (Or.inl rfl)), (h i hi).2.1.onlyS b (hn _ (Or.inr ⟨i, hi, Or.inl rfl⟩)), (h i hi).2.2.onlyS b (hn _ (Or.inr ⟨i, hi, Or.inr rfl⟩))⟩
theorem RowGA.row {c n : Nat} {X Y K L : Nat → Nat} {T : Nat → Ro} {w : World} (h : RowGA c n X Y K L T w) : RowG (some ⟨c, 0, none⟩) n T w := by
  intro i hi
  obtain ⟨M, o1, o2⟩ := h i hi
  exact ⟨c, 0, _, _, _, _, rfl, by rw [Nat.zero_add]; exact ⟨M.1, M.2.1⟩, o1.row, o2.row⟩
/-- All but route k. -/
def OthG (c n : Nat) (X Y K L : Nat → Nat) (T : Nat → Ro) (k : Nat) (w : World) : Prop := ∀ i, i < n → i ≠ k → OneGA c X Y K L T w i
theorem OthG.set {c n : Nat} {X Y K L : Nat → Nat} {T : Nat → Ro} {k : Nat} {w : World} (h : OthG c n X Y K L T k w) (hs : SepO c n X Y) (j : Nat) (hj : j < 8) (v : Value) : OthG c n X Y K L T k (w.setCell ⟨c, k * 8 + j, none⟩ v) := by
  intro i hi hne
  obtain ⟨M, o1, o2⟩ := h i hi hne
  obtain ⟨s1, s2, _⟩ := hs i hi
  refine ⟨M.far ?_ v, o1.other s1 _ _, o2.other s2 _ _⟩
  show k * 8 + j < i * 8 ∨ i * 8 + 8 ≤ k * 8 + j
  omega
theorem OthG.onlyX {c n : Nat} {X Y K L : Nat → Nat} {T : Nat → Ro} {k : Nat} {w w' : World} (h : OthG c n X Y K L T k w) (hs : SepO c n X Y) (hk : k < n) (b : Only (X k) w w') : OthG c n X Y K L T k w' := by
  intro i hi hne
  obtain ⟨M, o1, o2⟩ := h i hi hne
  obtain ⟨s1, s2, s3, s4⟩ := hs k hk
  obtain ⟨t1, t2, t3, t4⟩ := s4 i hi hne
  exact ⟨M.only b (fun e => s1 e.symm), o1.only b t1, o2.only b t3⟩
theorem OthG.onlyY {c n : Nat} {X Y K L : Nat → Nat} {T : Nat → Ro} {k : Nat} {w w' : World} (h : OthG c n X Y K L T k w) (hs : SepO c n X Y) (hk : k < n) (b : Only (Y k) w w') : OthG c n X Y K L T k w' := by
  intro i hi hne
  obtain ⟨M, o1, o2⟩ := h i hi hne
  obtain ⟨s1, s2, s3, s4⟩ := hs k hk
  obtain ⟨t1, t2, t3, t4⟩ := s4 i hi hne
  exact ⟨M.only b (fun e => s2 e.symm), o1.only b t2, o2.only b t4⟩
/-- The first mark of route k. -/
def kmG (T : Nat → Ro) (k : Nat) : Nat := 1 + 6 * k + totG T k
/-- A marked route. -/
def mkG (k : Int) (t : Ro) : Ro := ⟨k, k + 1, k + 1 + 1, k + 1 + 1 + 1 + (t.n0 : Int), k + 1 + 1 + 1 + (t.n0 : Int) + 1, k + 1 + 1 + 1 + (t.n0 : Int) + 1 + 1, t.n0, fun j => k + 1 + 1 + 1 + (j : Int), t.n1, fun j => k + 1 + 1 + 1 + (t.n0 : Int) + 1 + 1 + 1 + (j : Int)⟩
theorem kmG_succ (T : Nat → Ro) (k : Nat) : ((kmG T (k + 1) : Nat) : Int) = (kmG T k : Int) + 1 + 1 + 1 + ((T k).n0 : Int) + 1 + 1 + 1 + ((T k).n1 : Int) := by
  unfold kmG
  have h2 : totG T (k + 1) = totG T k + (T k).tot := rfl
  have h3 : (T k).tot = (T k).n0 + (T k).n1 := rfl
  omega
theorem kmG_le (T : Nat → Ro) {k n : Nat} (h : k ≤ n) (hn : n ≤ 1048576) (ht : totG T n ≤ 1048576) : kmG T k ≤ 10000000 := by
  unfold kmG
  have := totG_mono T h
  omega
/-- The first k routes marked. -/
def halfG (T : Nat → Ro) (k : Nat) (i : Nat) : Ro := if i < k then mkG (kmG T i : Int) (T i) else T i
theorem halfG_lt {T : Nat → Ro} {k i : Nat} (h : i < k) : halfG T k i = mkG (kmG T i : Int) (T i) := if_pos h
theorem halfG_ge {T : Nat → Ro} {k i : Nat} (h : ¬ i < k) : halfG T k i = T i := if_neg h
theorem halfG_zero (T : Nat → Ro) : halfG T 0 = T := by
  funext i
  exact halfG_ge (by omega)
theorem halfG_other {T : Nat → Ro} {k i : Nat} (h : i ≠ k) : halfG T (k + 1) i = halfG T k i := by
  unfold halfG
  by_cases e : i < k
  · rw [if_pos e, if_pos (by omega)]
  · rw [if_neg e, if_neg (by omega)]
theorem RowGA.step {c n : Nat} {X Y K L : Nat → Nat} {T : Nat → Ro} {k : Nat} {w : World} (h : OthG c n X Y K L (halfG T k) k w)
    (M : MutO w c (k * 8) (rvG (mkG (kmG T k : Int) (T k)) (some ⟨X k, 0, none⟩) (K k) (some ⟨Y k, 0, none⟩) (L k))) (o1 : OutInt (X k) (T k).n0 (T k).n0 (fun j => (kmG T k : Int) + 1 + 1 + 1 + (j : Int)) w)
    (o2 : OutInt (Y k) (T k).n1 (T k).n1 (fun j => (kmG T k : Int) + 1 + 1 + 1 + ((T k).n0 : Int) + 1 + 1 + 1 + (j : Int)) w) : RowGA c n X Y K L (halfG T (k + 1)) w := by
  intro i hi
  unfold OneGA
  by_cases e : i = k
  · subst e
    rw [halfG_lt (Nat.lt_succ_self i)]
    exact ⟨M, o1, o2⟩
  · rw [halfG_other e]
    exact h i hi e
set_option maxRecDepth 100000 in
set_option maxHeartbeats 3200000 in
theorem w_markRouteS (c n cap : Nat) (X Y K L : Nat → Nat) (T : Nat → Ro) (w : World) (hn : n ≤ 1048576) (ht : totG T n ≤ 1048576) (hs : SepO c n X Y) (hR : RowGA c n X Y K L T w) :
    Calls Try.prog 18 #[.slice (some ⟨c, 0, none⟩) n cap, .int .i64 1] w fun e w' => e = .returned (.int .i64 (kmG T n : Int)) ∧ RowGA c n X Y K L (halfG T n) w' ∧ OnlyS (BlkO c n X Y) w w' := by
  go_enter Try.func18, Try.ntmps18
  go_wp2_with fail
  go_loopw [1, 5] (fun x y wr => ∃ k : Nat, x = .int .i64 (kmG T k : Int) ∧ y = .int .i64 k ∧ k ≤ n ∧ RowGA c n X Y K L (halfG T k) wr ∧ OnlyS (BlkO c n X Y) w wr) (fun _ y _ => n - (intOf y).toNat)
  case atStart => exact ⟨0, rfl, rfl, Nat.zero_le _, by rw [halfG_zero]; exact hR, OnlyS.refl _ _⟩
  case round =>
    clear hR
    obtain ⟨k, rfl, rfl, hk, RA, OS⟩ := hrel
    by_cases hlt : k < n
    · have hlt' : (k : Int) < (n : Int) := by omega
      have hko := kmG_le T (Nat.le_of_lt hlt) hn ht
      have hks := hide (kmG_succ T k)
      have hOth : OthG c n X Y K L (halfG T k) k wr := fun i hi _ => RA i hi
      obtain ⟨M, o1, o2⟩ := RA k hlt
      rw [halfG_ge (Nat.lt_irrefl k)] at M o1 o2
      have hfin := hide (fun w h M o1 o2 => RowGA.step (c := c) (n := n) (X := X) (Y := Y) (K := K) (L := L) (T := T) (k := k) (w := w) h M o1 o2)
      have hlo : (T k).n0 ≤ 1048576 ∧ (T k).n1 ≤ 1048576 := lowG_of ht k hlt
      have bc : BlkO c n X Y c := Or.inl rfl
      have bx : BlkO c n X Y (X k) := Or.inr ⟨k, hlt, Or.inl rfl⟩
      have byy : BlkO c n X Y (Y k) := Or.inr ⟨k, hlt, Or.inr rfl⟩
      obtain ⟨s1, s2, s3, _⟩ := hs k hlt
      have hX := hide (fun w w' (h : OthG c n X Y K L (halfG T k) k w) (b : Only (X k) w w') => h.onlyX hs hlt b)
      have hY := hide (fun w w' (h : OthG c n X Y K L (halfG T k) k w) (b : Only (Y k) w w') => h.onlyY hs hlt b)
      have hSt := hide (fun w (h : OthG c n X Y K L (halfG T k) k w) j hj v => h.set hs j hj v)
      generalize OthG c n X Y K L (halfG T k) k = OT at *
      generalize BlkO c n X Y = BK at *
      generalize X k = x at *
      generalize Y k = y at *
      generalize K k = kx at *
      generalize L k = ly at *
      generalize kmG T k = km at *
      generalize T k = t at *
      obtain ⟨hl0, hl1⟩ := hlo
      have MI := hide (fun w O => w_markIntS x t.n0 kx t.f ((km : Int) + 1 + 1 + 1) w (by omega) (by omega) (by omega) O)
      have MJ := hide (fun w O => w_markIntS y t.n1 ly t.g ((km : Int) + 1 + 1 + 1 + (t.n0 : Int) + 1 + 1 + 1) w (by omega) (by omega) (by omega) O)
      clear RA hs ht
      have m0 := M.2.1 0 _ rfl
      have m1 := M.2.1 1 _ rfl
      have m2 := M.2.1 2 _ rfl
      have m3 := M.2.1 3 _ rfl
      have z0 := M.2.2 0 (by simp [rvG])
      have z1 := M.2.2 1 (by simp [rvG])
      have z2 := M.2.2 2 (by simp [rvG])
      simp only [Nat.add_zero] at m0 z0
      go_wp2_with fail
      have M1 := (((M.set 0 (.int .i64 (km : Int))).set 1 (.int .i64 ((km : Int) + 1))).set 2 (.int .i64 ((km : Int) + 1 + 1)))
      have O1 := hSt.out _ (hSt.out _ (hSt.out _ (hOth) 0 (by omega) (.int .i64 (km : Int))) 1 (by omega) (.int .i64 ((km : Int) + 1))) 2 (by omega) (.int .i64 ((km : Int) + 1 + 1))
      have S1 := (((OS.set bc (k * 8 + 0) (.int .i64 (km : Int))).set bc (k * 8 + 1) (.int .i64 ((km : Int) + 1))).set bc (k * 8 + 2) (.int .i64 ((km : Int) + 1 + 1)))
      have p1 := (((o1.other s1 (k * 8 + 0) (.int .i64 (km : Int))).other s1 (k * 8 + 1) (.int .i64 ((km : Int) + 1))).other s1 (k * 8 + 2) (.int .i64 ((km : Int) + 1 + 1)))
      have p2 := (((o2.other s2 (k * 8 + 0) (.int .i64 (km : Int))).other s2 (k * 8 + 1) (.int .i64 ((km : Int) + 1))).other s2 (k * 8 + 2) (.int .i64 ((km : Int) + 1 + 1)))
      simp only [Nat.add_zero] at M1 O1 S1 p1 p2
      generalize (((wr).setCell ⟨c, k * 8, none⟩ (.int .i64 (km : Int))).setCell ⟨c, k * 8 + 1, none⟩ (.int .i64 ((km : Int) + 1))).setCell ⟨c, k * 8 + 2, none⟩ (.int .i64 ((km : Int) + 1 + 1)) = w1 at *
      clear m0 m1 m2 m3 z0 z1 z2 M o1 o2 hOth OS
      refine (MI.out _ p1).mono ?_
      rintro e w2 ⟨rfl, b2, p1⟩
      replace p2 := p2.only b2 (fun e => s3 e.symm)
      replace M1 := M1.only b2 (fun e => s1 e.symm)
      replace O1 := hX.out _ _ O1 b2
      replace S1 := S1.trans (OnlyS.of_only b2 bx)
      clear b2 MI
      have m3 := M1.2.1 4 _ rfl
      have m4 := M1.2.1 5 _ rfl
      have m5 := M1.2.1 6 _ rfl
      have m6 := M1.2.1 7 _ rfl
      have z3 := M1.2.2 4 (by simp [rvG])
      have z4 := M1.2.2 5 (by simp [rvG])
      have z5 := M1.2.2 6 (by simp [rvG])
      go_wp2_with fail
      have M2 := (((M1.set 4 (.int .i64 ((km : Int) + 1 + 1 + 1 + (t.n0 : Int)))).set 5 (.int .i64 ((km : Int) + 1 + 1 + 1 + (t.n0 : Int) + 1))).set 6 (.int .i64 ((km : Int) + 1 + 1 + 1 + (t.n0 : Int) + 1 + 1)))
      have O2 := hSt.out _ (hSt.out _ (hSt.out _ (O1) 4 (by omega) (.int .i64 ((km : Int) + 1 + 1 + 1 + (t.n0 : Int)))) 5 (by omega) (.int .i64 ((km : Int) + 1 + 1 + 1 + (t.n0 : Int) + 1))) 6 (by omega) (.int .i64 ((km : Int) + 1 + 1 + 1 + (t.n0 : Int) + 1 + 1))
      have S2 := (((S1.set bc (k * 8 + 4) (.int .i64 ((km : Int) + 1 + 1 + 1 + (t.n0 : Int)))).set bc (k * 8 + 5) (.int .i64 ((km : Int) + 1 + 1 + 1 + (t.n0 : Int) + 1))).set bc (k * 8 + 6) (.int .i64 ((km : Int) + 1 + 1 + 1 + (t.n0 : Int) + 1 + 1)))
      replace p1 := (((p1.other s1 (k * 8 + 4) (.int .i64 ((km : Int) + 1 + 1 + 1 + (t.n0 : Int)))).other s1 (k * 8 + 5) (.int .i64 ((km : Int) + 1 + 1 + 1 + (t.n0 : Int) + 1))).other s1 (k * 8 + 6) (.int .i64 ((km : Int) + 1 + 1 + 1 + (t.n0 : Int) + 1 + 1)))
      replace p2 := (((p2.other s2 (k * 8 + 4) (.int .i64 ((km : Int) + 1 + 1 + 1 + (t.n0 : Int)))).other s2 (k * 8 + 5) (.int .i64 ((km : Int) + 1 + 1 + 1 + (t.n0 : Int) + 1))).other s2 (k * 8 + 6) (.int .i64 ((km : Int) + 1 + 1 + 1 + (t.n0 : Int) + 1 + 1)))
      generalize (((w2).setCell ⟨c, k * 8 + 4, none⟩ (.int .i64 ((km : Int) + 1 + 1 + 1 + (t.n0 : Int)))).setCell ⟨c, k * 8 + 5, none⟩ (.int .i64 ((km : Int) + 1 + 1 + 1 + (t.n0 : Int) + 1))).setCell ⟨c, k * 8 + 6, none⟩ (.int .i64 ((km : Int) + 1 + 1 + 1 + (t.n0 : Int) + 1 + 1)) = w3 at *
      clear m3 m4 m5 m6 z3 z4 z5 M1 O1 S1
      refine (MJ.out _ p2).mono ?_
      rintro e w4 ⟨rfl, b4, p2⟩
      replace p1 := p1.only b4 s3
      replace M2 := M2.only b4 (fun e => s2 e.symm)
      replace O2 := hY.out _ _ O2 b4
      replace S2 := S2.trans (OnlyS.of_only b4 byy)
      clear b4 MJ hX hY hSt
      go_wp2_with fail
      exact ⟨⟨k + 1, by rw [hks.out], by go_num, by omega, hfin.out _ O2 M2 p1 p2, S2⟩, by simp [intOf]; omega⟩
    · have hlt' : ¬ (k : Int) < (n : Int) := by omega
      obtain rfl : k = n := by omega
      go_wp2_with fail
      go_ret
      exact ⟨rfl, RA, OS⟩
set_option maxRecDepth 100000 in
set_option maxHeartbeats 3200000 in
theorem w_heldRouteS (a : Option Addr) (n cap : Nat) (T : Nat → Ro) (w : World) (hn : n ≤ 1048576) (ht : totG T n ≤ 1048576) (hR : RowG a n (halfG T n) w) :
    Calls Try.prog 27 #[.slice a n cap, .int .i64 1] w fun e w' => e = .returned (.int .i64 (kmG T n : Int)) ∧ Below w.heap.size w w' := by
  go_enter Try.func27, Try.ntmps27
  go_wp2_with fail
  go_loopw [1, 5] (fun x y wr => ∃ k : Nat, x = .int .i64 (kmG T k : Int) ∧ y = .int .i64 k ∧ k ≤ n ∧ Below w.heap.size w wr) (fun _ y _ => n - (intOf y).toNat)
  case atStart => exact ⟨0, rfl, rfl, Nat.zero_le _, Below.refl _ _⟩
  case round =>
    obtain ⟨k, rfl, rfl, hk, hb⟩ := hrel
    by_cases hlt : k < n
    · have hlt' : (k : Int) < (n : Int) := by omega
      have hko := kmG_le T (Nat.le_of_lt hlt) hn ht
      have hks := hide (kmG_succ T k)
      have hlo : (T k).n0 ≤ 1048576 ∧ (T k).n1 ≤ 1048576 := lowG_of ht k hlt
      obtain ⟨b, off, a0, c0, a1, c1, rfl, hC, i0, i1⟩ := hR k hlt
      have hbw := hC.1
      rw [halfG_lt hlt] at hC i0 i1
      generalize kmG T k = km at *
      generalize T k = t at *
      obtain ⟨hl0, hl1⟩ := hlo
      have u0 := (hb.cell (p := ⟨b, off + k * 8 + 0, none⟩) hbw).trans (hC.2 0 _ rfl)
      have u1 := (hb.cell (p := ⟨b, off + k * 8 + 1, none⟩) hbw).trans (hC.2 1 _ rfl)
      have u2 := (hb.cell (p := ⟨b, off + k * 8 + 2, none⟩) hbw).trans (hC.2 2 _ rfl)
      have u3 := (hb.cell (p := ⟨b, off + k * 8 + 3, none⟩) hbw).trans (hC.2 3 _ rfl)
      have u4 := (hb.cell (p := ⟨b, off + k * 8 + 4, none⟩) hbw).trans (hC.2 4 _ rfl)
      have u5 := (hb.cell (p := ⟨b, off + k * 8 + 5, none⟩) hbw).trans (hC.2 5 _ rfl)
      have u6 := (hb.cell (p := ⟨b, off + k * 8 + 6, none⟩) hbw).trans (hC.2 6 _ rfl)
      have u7 := (hb.cell (p := ⟨b, off + k * 8 + 7, none⟩) hbw).trans (hC.2 7 _ rfl)
      simp only [Nat.add_zero] at u0
      have HI := hide (fun w R => w_heldIntS a0 t.n0 c0 ((km : Int) + 1 + 1 + 1) w (by omega) (by omega) (by omega) R)
      have HJ := hide (fun w R => w_heldIntS a1 t.n1 c1 ((km : Int) + 1 + 1 + 1 + (t.n0 : Int) + 1 + 1 + 1) w (by omega) (by omega) (by omega) R)
      have i0 := hide (i0.below hb)
      have i1 := hide (i1.below hb)
      simp only [mkG] at u0 u1 u2 u3 u4 u5 u6 u7
      have e0 : ((km : Int) != (km : Int)) = false := by simp
      have e1 : ((km : Int) + 1 != (km : Int) + 1) = false := by simp
      have e2 : ((km : Int) + 1 + 1 != (km : Int) + 1 + 1) = false := by simp
      have e3 : ((km : Int) + 1 + 1 + 1 + (t.n0 : Int) != (km : Int) + 1 + 1 + 1 + (t.n0 : Int)) = false := by simp
      have e4 : ((km : Int) + 1 + 1 + 1 + (t.n0 : Int) + 1 != (km : Int) + 1 + 1 + 1 + (t.n0 : Int) + 1) = false := by simp
      have e5 : ((km : Int) + 1 + 1 + 1 + (t.n0 : Int) + 1 + 1 != (km : Int) + 1 + 1 + 1 + (t.n0 : Int) + 1 + 1) = false := by simp
      have g2 : ¬ ((km : Int) + 1 + 1 + 1 + (t.n0 : Int) < 0) := by omega
      have g6 : ¬ ((km : Int) + 1 + 1 + 1 + (t.n0 : Int) + 1 + 1 + 1 + (t.n1 : Int) < 0) := by omega
      clear hR hC
      go_wp2_with fail
      refine (HI.out _ i0.out).mono ?_
      rintro e w2 ⟨rfl, rfl⟩
      go_wp2_with fail
      refine (HJ.out _ i1.out).mono ?_
      rintro e w3 ⟨rfl, rfl⟩
      go_wp2_with fail
      exact ⟨⟨k + 1, by rw [hks.out], by go_num, by omega, hb⟩, by simp [intOf]; omega⟩
    · have hlt' : ¬ (k : Int) < (n : Int) := by omega
      obtain rfl : k = n := by omega
      go_wp2_with fail
      go_ret
      exact ⟨rfl, hb⟩
set_option maxRecDepth 100000 in
set_option maxHeartbeats 3200000 in
theorem w_eqRouteS (a a' : Option Addr) (n c c' : Nat) (T : Nat → Ro) (w : World) (hn : n ≤ 1048576) (hl : LowG n T) (hR : RowG a n T w) (hQ : RowG a' n T w) :
    Calls Try.prog 12 #[.slice a n c, .slice a' n c'] w fun e w' => e = .returned (.bool true) ∧ Below w.heap.size w w' := by
  have hne : ((n : Int) != (n : Int)) = false := by simp
  go_enter Try.func12, Try.ntmps12
  go_wp2_with fail
  go_loopw [5] (fun i wr => ∃ k : Nat, k ≤ n ∧ i = .int .i64 k ∧ Below w.heap.size w wr) (fun i _ => n - (intOf i).toNat)
  case atStart => exact ⟨0, Nat.zero_le _, rfl, Below.refl _ _⟩
  case round =>
    obtain ⟨k, hk, rfl, hb⟩ := hrel
    by_cases hlt : k < n
    · obtain ⟨b, off, a0, c0, a1, c1, rfl, hC, r0, r1⟩ := hR k hlt
      obtain ⟨b', off', d0, e0, d1, e1, rfl, hC', q0, q1⟩ := hQ k hlt
      have hbw := hC.1
      have hbw' := hC'.1
      have u0 := cell_regrown ((hb.cell (p := ⟨b, off + k * 8 + 0, none⟩) hbw).trans (hC.2 0 _ rfl))
      have v0 := cell_regrown ((hb.cell (p := ⟨b', off' + k * 8 + 0, none⟩) hbw').trans (hC'.2 0 _ rfl))
      have u1 := cell_regrown ((hb.cell (p := ⟨b, off + k * 8 + 1, none⟩) hbw).trans (hC.2 1 _ rfl))
      have v1 := cell_regrown ((hb.cell (p := ⟨b', off' + k * 8 + 1, none⟩) hbw').trans (hC'.2 1 _ rfl))
      have u2 := cell_regrown ((hb.cell (p := ⟨b, off + k * 8 + 2, none⟩) hbw).trans (hC.2 2 _ rfl))
      have v2 := cell_regrown ((hb.cell (p := ⟨b', off' + k * 8 + 2, none⟩) hbw').trans (hC'.2 2 _ rfl))
      have u3 := cell_regrown ((hb.cell (p := ⟨b, off + k * 8 + 3, none⟩) hbw).trans (hC.2 3 _ rfl))
      have v3 := cell_regrown ((hb.cell (p := ⟨b', off' + k * 8 + 3, none⟩) hbw').trans (hC'.2 3 _ rfl))
      have u4 := cell_regrown ((hb.cell (p := ⟨b, off + k * 8 + 4, none⟩) hbw).trans (hC.2 4 _ rfl))
      have v4 := cell_regrown ((hb.cell (p := ⟨b', off' + k * 8 + 4, none⟩) hbw').trans (hC'.2 4 _ rfl))
      have u5 := cell_regrown ((hb.cell (p := ⟨b, off + k * 8 + 5, none⟩) hbw).trans (hC.2 5 _ rfl))
      have v5 := cell_regrown ((hb.cell (p := ⟨b', off' + k * 8 + 5, none⟩) hbw').trans (hC'.2 5 _ rfl))
      have u6 := cell_regrown ((hb.cell (p := ⟨b, off + k * 8 + 6, none⟩) hbw).trans (hC.2 6 _ rfl))
      have v6 := cell_regrown ((hb.cell (p := ⟨b', off' + k * 8 + 6, none⟩) hbw').trans (hC'.2 6 _ rfl))
      have u7 := cell_regrown ((hb.cell (p := ⟨b, off + k * 8 + 7, none⟩) hbw).trans (hC.2 7 _ rfl))
      have v7 := cell_regrown ((hb.cell (p := ⟨b', off' + k * 8 + 7, none⟩) hbw').trans (hC'.2 7 _ rfl))
      simp only [Nat.add_zero] at u0 v0
      have hlt' : (k : Int) < (n : Int) := by omega
      obtain ⟨l1, l2⟩ := hl k hlt
      have E := hide (fun w R0 R1 Q0 Q1 => w_eqRoute (T k).pa (T k).pl (T k).o (T k).nx (T k).md (T k).pf a0 d0 (T k).n0 c0 e0 (T k).f a1 d1 (T k).n1 c1 e1 (T k).g w (by omega) (by omega) R0 R1 Q0 Q1)
      have h0 := hide (r0.below hb)
      have h1 := hide (r1.below hb)
      have h2 := hide (q0.below hb)
      have h3 := hide (q1.below hb)
      clear hR hQ l1 l2 hC hC' r0 r1 q0 q1
      generalize T k = t at *
      go_wp2_with fail
      refine wp_region_quiet_below (by kernel_rfl) (by kernel_rfl) ?_
      repeat (first | go_big_quiet_step ((go_at_call 37; exact Calls.regrown_of (E.out _ (h0.out.below (below_regrown _ _ _)) (h1.out.below (below_regrown _ _ _)) (h2.out.below (below_regrown _ _ _)) (h3.out.below (below_regrown _ _ _))))) | quiet_step ((go_at_call 37; exact Calls.regrown_of (E.out _ (h0.out.below (below_regrown _ _ _)) (h1.out.below (below_regrown _ _ _)) (h2.out.below (below_regrown _ _ _)) (h3.out.below (below_regrown _ _ _))))))
      refine wpQuiet_nil ?_
      intro _ hw'
      obtain ⟨⟨dq, osq⟩, hw''⟩ := hw'
      subst hw''
      have hq := below_regrown wr dq osq
      generalize Go.Sort.grow (redrawn wr dq) osq = wq at hq ⊢
      have hbq := hb.trans (hq.mono hb.size)
      clear hq u0 v0 u1 v1 u2 v2 u3 v3 u4 v4 u5 v5 u6 v6 u7 v7
      go_wp2_with fail
      exact ⟨⟨k + 1, by omega, by go_num, hbq⟩, by simp [intOf]; omega⟩
    · have hlt' : ¬ (k : Int) < (n : Int) := by omega
      go_wp2_with fail
      go_ret
      exact ⟨rfl, hb⟩
end Go.Proofs.Ytlhdeeihpaogkaa
