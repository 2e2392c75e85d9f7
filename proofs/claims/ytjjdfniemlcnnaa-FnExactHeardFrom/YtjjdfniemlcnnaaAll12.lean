/- BestBy of the specification. -/
import Derived.Test.YtjjdfniemlcnnaaS8b
import Derived.Lib.QuietBelow
import Derived.Test.YtjjdfniemlcnnaaAll1
import Derived.Test.YtjjdfniemlcnnaaMemN
import Derived.Test.YtjjdfniemlcnnaaAll4
import Derived.Test.YtjjdfniemlcnnaaAll5
/- l8Best, BestOffer of the specification. -/
namespace Go.Proofs.Ytjjdfniemlcnnaa
open Go.RowKit

/-- The place of the best one of the first k, -1 where there is none. -/
def bsO (T : Nat → Oc) (k : Nat) : Int := if k = 0 then -1 else (pkO T (k - 1) : Int)
theorem bsO_zero (T : Nat → Oc) : bsO T 0 = -1 := rfl
theorem bsO_succ (T : Nat → Oc) (k : Nat) : bsO T (k + 1) = (pkO T k : Int) := by simp [bsO]
set_option maxRecDepth 100000 in
set_option maxHeartbeats 3200000 in
theorem s_l8Best (a : Option Addr) (n c : Nat) (T : Nat → Oc) (w : World) (hn : n ≤ 1048576) (hR : RowO a n T w) :
    Calls Try.prog 82 #[.slice a n c] w fun e w' => e = .returned (.int .i64 (bsO T n)) ∧ Below w.heap.size w w' := by
  go_enter Try.func82, Try.ntmps82
  go_wp2_with fail
  go_loopw [3, 8] (fun x y wr => ∃ k : Nat, x = .int .i64 (bsO T k) ∧ y = .int .i64 k ∧ k ≤ n ∧ Below w.heap.size w wr) (fun _ y _ => n - (intOf y).toNat)
  case atStart => exact ⟨0, rfl, rfl, Nat.zero_le _, Below.refl _ _⟩
  case round =>
    obtain ⟨k, rfl, rfl, hk, hb⟩ := hrel
    by_cases hlt : k < n
    · obtain ⟨b, off, a0, c0, a1, c1, rfl, hbw, u0, u1, u2, u3, u4, u5, u6, ht⟩ := hR k hlt
      replace u0 := (hb.cell (p := ⟨b, off + k * 7, none⟩) hbw).trans u0
      replace u1 := (hb.cell (p := ⟨b, off + k * 7 + 1, none⟩) hbw).trans u1
      replace u2 := (hb.cell (p := ⟨b, off + k * 7 + 2, none⟩) hbw).trans u2
      replace u3 := (hb.cell (p := ⟨b, off + k * 7 + 3, none⟩) hbw).trans u3
      replace u4 := (hb.cell (p := ⟨b, off + k * 7 + 4, none⟩) hbw).trans u4
      replace u5 := (hb.cell (p := ⟨b, off + k * 7 + 5, none⟩) hbw).trans u5
      replace u6 := (hb.cell (p := ⟨b, off + k * 7 + 6, none⟩) hbw).trans u6
      have hlt' : (k : Int) < (n : Int) := by omega
      by_cases hz : k = 0
      · subst hz
        have hN : Hid (bsO T (0 + 1) = ((0 : Nat) : Int)) := bsO_succ T 0
        rw [bsO_zero]
        simp only [Nat.zero_mul, Nat.add_zero] at u0 u1 u2 u3 u4 u5 u6
        clear hR ht
        generalize T 0 = t at *
        go_wp2_with fail
        have MX := Mut.new wr #[.int .i64 t.pe, .int .i64 t.o, .slice a0 t.n0 c0, .int .i64 t.nx, .int .i64 t.md, .int .i64 t.pf, .slice a1 t.n1 c1] 49
        have dX : Below w.heap.size w (wr.alloc (.cells #[.int .i64 t.pe, .int .i64 t.o, .slice a0 t.n0 c0, .int .i64 t.nx, .int .i64 t.md, .int .i64 t.pf, .slice a1 t.n1 c1] 49)) := hb.trans ((below_box (Below.refl _ _)).mono hb.size)
        generalize wr.alloc (.cells #[.int .i64 t.pe, .int .i64 t.o, .slice a0 t.n0 c0, .int .i64 t.nx, .int .i64 t.md, .int .i64 t.pf, .slice a1 t.n1 c1] 49) = wx at *
        have k0 := cell_regrown (MX.2.1 0 _ rfl)
        have k1 := cell_regrown (MX.2.1 1 _ rfl)
        have k2 := cell_regrown (MX.2.1 2 _ rfl)
        have k3 := cell_regrown (MX.2.1 3 _ rfl)
        have k4 := cell_regrown (MX.2.1 4 _ rfl)
        have k5 := cell_regrown (MX.2.1 5 _ rfl)
        have k6 := cell_regrown (MX.2.1 6 _ rfl)
        refine wp_region_quiet_below (by kernel_rfl) (by kernel_rfl) ?_
        repeat (first | go_big_quiet_step (fail) | quiet_step (fail))
        refine wpQuiet_nil ?_
        intro _ hw'
        obtain ⟨⟨dq, osq⟩, hw''⟩ := hw'
        subst hw''
        have hq := below_regrown wx dq osq
        generalize Go.Sort.grow (redrawn wx dq) osq = wq at hq ⊢
        have hbq := dX.trans (hq.mono dX.size)
        clear hq k0 k1 k2 k3 k4 k5 k6 MX
        go_wp2_with fail
        exact ⟨⟨1, by rw [hN.out] <;> simp, by go_num, by omega, hbq⟩, by first | (simp [intOf]; done) | (simp [intOf]; omega)⟩
      · obtain ⟨m, rfl⟩ : ∃ m, k = m + 1 := ⟨k - 1, by omega⟩
        have hp := pkO_le T m
        have hpk : Hid (pkO T (m + 1) = if cmpO (T (m + 1)) (T (pkO T m)) < 0 then m + 1 else pkO T m) := rfl
        have hs1 := hide (bsO_succ T (m + 1))
        have hs2 := bsO_succ T m
        rw [hs2]
        clear hs2
        generalize hpm : pkO T m = q at *
        obtain ⟨b', off', b0, e0, b1, e1, hbo, _, v0, v1, v2, v3, v4, v5, v6, _⟩ := hR q (by omega)
        simp only [Option.some.injEq, Addr.mk.injEq, and_true] at hbo
        obtain ⟨rfl, rfl⟩ := hbo
        have hq0 : (q : Int) < (n : Int) := by omega
        have hq1 : ¬ ((q : Int) < 0) := by omega
        have hq2 : decide ((q : Int) < 0) = false := by simp
        have C := hide (fun w => s_compareO a0 c0 a1 c1 (T (m + 1)) b0 e0 b1 e1 (T q) w)
        have dX : Below w.heap.size w (wr.alloc (.cells #[.int .i64 (T (m + 1)).pe, .int .i64 (T (m + 1)).o, .slice a0 (T (m + 1)).n0 c0, .int .i64 (T (m + 1)).nx, .int .i64 (T (m + 1)).md, .int .i64 (T (m + 1)).pf, .slice a1 (T (m + 1)).n1 c1] 49)) := hb.trans ((below_box (Below.refl _ _)).mono hb.size)
        replace v0 := (dX.cell (p := ⟨b, off + q * 7, none⟩) hbw).trans v0
        replace v1 := (dX.cell (p := ⟨b, off + q * 7 + 1, none⟩) hbw).trans v1
        replace v2 := (dX.cell (p := ⟨b, off + q * 7 + 2, none⟩) hbw).trans v2
        replace v3 := (dX.cell (p := ⟨b, off + q * 7 + 3, none⟩) hbw).trans v3
        replace v4 := (dX.cell (p := ⟨b, off + q * 7 + 4, none⟩) hbw).trans v4
        replace v5 := (dX.cell (p := ⟨b, off + q * 7 + 5, none⟩) hbw).trans v5
        replace v6 := (dX.cell (p := ⟨b, off + q * 7 + 6, none⟩) hbw).trans v6
        generalize cmpO (T (m + 1)) (T q) = r at *
        clear hR ht hp
        generalize T (m + 1) = t at *
        generalize T q = u at *
        by_cases hr : r < 0
        · have hr' : decide (r < 0) = true := by simp [hr]
          have hN : Hid (bsO T (m + 1 + 1) = ((m + 1 : Nat) : Int)) := by rw [Hid]; rw [hs1.out, hpk.out, if_pos hr]
          clear hs1 hpk
          go_wp2_with fail
          have MX := Mut.new wr #[.int .i64 t.pe, .int .i64 t.o, .slice a0 t.n0 c0, .int .i64 t.nx, .int .i64 t.md, .int .i64 t.pf, .slice a1 t.n1 c1] 49
          generalize wr.alloc (.cells #[.int .i64 t.pe, .int .i64 t.o, .slice a0 t.n0 c0, .int .i64 t.nx, .int .i64 t.md, .int .i64 t.pf, .slice a1 t.n1 c1] 49) = wx at *
          have k0 := cell_regrown (MX.2.1 0 _ rfl)
          have k1 := cell_regrown (MX.2.1 1 _ rfl)
          have k2 := cell_regrown (MX.2.1 2 _ rfl)
          have k3 := cell_regrown (MX.2.1 3 _ rfl)
          have k4 := cell_regrown (MX.2.1 4 _ rfl)
          have k5 := cell_regrown (MX.2.1 5 _ rfl)
          have k6 := cell_regrown (MX.2.1 6 _ rfl)
          have l0 := cell_regrown v0
          have l1 := cell_regrown v1
          have l2 := cell_regrown v2
          have l3 := cell_regrown v3
          have l4 := cell_regrown v4
          have l5 := cell_regrown v5
          have l6 := cell_regrown v6
          refine wp_region_quiet_below (by kernel_rfl) (by kernel_rfl) ?_
          repeat (first | go_big_quiet_step ((go_at_call 92; exact Calls.regrown_of (C.out _))) | quiet_step ((go_at_call 92; exact Calls.regrown_of (C.out _))))
          refine wpQuiet_nil ?_
          intro _ hw'
          obtain ⟨⟨dq, osq⟩, hw''⟩ := hw'
          subst hw''
          have hq := below_regrown wx dq osq
          generalize Go.Sort.grow (redrawn wx dq) osq = wq at hq ⊢
          have hbq := dX.trans (hq.mono dX.size)
          clear hq k0 k1 k2 k3 k4 k5 k6 MX l0 l1 l2 l3 l4 l5 l6
          go_wp2_with fail
          exact ⟨⟨m + 2, by rw [show m + 2 = m + 1 + 1 from rfl, hN.out] <;> simp, by go_num, by omega, hbq⟩, by simp [intOf]; omega⟩
        · have hr' : decide (r < 0) = false := by simp [hr]
          have hN : Hid (bsO T (m + 1 + 1) = (q : Int)) := by rw [Hid]; rw [hs1.out, hpk.out, if_neg hr]
          clear hs1 hpk
          go_wp2_with fail
          have MX := Mut.new wr #[.int .i64 t.pe, .int .i64 t.o, .slice a0 t.n0 c0, .int .i64 t.nx, .int .i64 t.md, .int .i64 t.pf, .slice a1 t.n1 c1] 49
          generalize wr.alloc (.cells #[.int .i64 t.pe, .int .i64 t.o, .slice a0 t.n0 c0, .int .i64 t.nx, .int .i64 t.md, .int .i64 t.pf, .slice a1 t.n1 c1] 49) = wx at *
          have k0 := cell_regrown (MX.2.1 0 _ rfl)
          have k1 := cell_regrown (MX.2.1 1 _ rfl)
          have k2 := cell_regrown (MX.2.1 2 _ rfl)
          have k3 := cell_regrown (MX.2.1 3 _ rfl)
          have k4 := cell_regrown (MX.2.1 4 _ rfl)
          have k5 := cell_regrown (MX.2.1 5 _ rfl)
          have k6 := cell_regrown (MX.2.1 6 _ rfl)
          have l0 := cell_regrown v0
          have l1 := cell_regrown v1
          have l2 := cell_regrown v2
          have l3 := cell_regrown v3
          have l4 := cell_regrown v4
          have l5 := cell_regrown v5
          have l6 := cell_regrown v6
          refine wp_region_quiet_below (by kernel_rfl) (by kernel_rfl) ?_
          repeat (first | go_big_quiet_step ((go_at_call 92; exact Calls.regrown_of (C.out _))) | quiet_step ((go_at_call 92; exact Calls.regrown_of (C.out _))))
          refine wpQuiet_nil ?_
          intro _ hw'
          obtain ⟨⟨dq, osq⟩, hw''⟩ := hw'
          subst hw''
          have hq := below_regrown wx dq osq
          generalize Go.Sort.grow (redrawn wx dq) osq = wq at hq ⊢
          have hbq := dX.trans (hq.mono dX.size)
          clear hq k0 k1 k2 k3 k4 k5 k6 MX l0 l1 l2 l3 l4 l5 l6
          go_wp2_with fail
          exact ⟨⟨m + 2, by rw [show m + 2 = m + 1 + 1 from rfl, hN.out] <;> simp, by go_num, by omega, hbq⟩, by simp [intOf]; omega⟩
    · have hlt' : ¬ (k : Int) < (n : Int) := by omega
      obtain rfl : k = n := by omega
      go_wp2_with fail
      go_ret
      exact ⟨rfl, hb⟩
end Go.Proofs.Ytjjdfniemlcnnaa

/- Rising lists of numbers, plain. -/
namespace Go.Proofs.Ytjjdfniemlcnnaa

def hasN (l : List Int) (x : Int) : Bool := l.any (· == x)
theorem hasN_iff {l : List Int} {x : Int} : hasN l x = true ↔ x ∈ l := by simp [hasN]
def putN : List Int → Int → List Int
  | [], n => [n]
  | a :: l, n => if a < n then a :: putN l n else if a = n then a :: l else n :: a :: l
def UpN (l : List Int) : Prop := l.Pairwise (· < ·)
def InN (l : List Int) : Prop := ∀ x ∈ l, 0 ≤ x ∧ x < 80
theorem mem_put (l : List Int) (n x : Int) : x ∈ putN l n ↔ x = n ∨ x ∈ l := by
  induction l with
  | nil => simp [putN]
  | cons a l ih =>
    unfold putN
    split
    · rw [List.mem_cons, ih, List.mem_cons]
      constructor
      · rintro (h | h | h)
        · exact .inr (.inl h)
        · exact .inl h
        · exact .inr (.inr h)
      · rintro (h | h | h)
        · exact .inr (.inl h)
        · exact .inl h
        · exact .inr (.inr h)
    · split
      · rename_i e
        rw [List.mem_cons]
        constructor
        · exact .inr
        · rintro (h | h)
          · exact .inl (h.trans e.symm)
          · exact h
      · rw [List.mem_cons]
theorem up_put {l : List Int} (n : Int) (h : UpN l) : UpN (putN l n) := by
  induction l with
  | nil => simp [putN, UpN]
  | cons a l ih =>
    unfold UpN at h ih ⊢
    rw [List.pairwise_cons] at h
    unfold putN
    split
    · rename_i ha
      rw [List.pairwise_cons]
      refine ⟨fun x hx => ?_, ih h.2⟩
      rcases (mem_put l n x).1 hx with rfl | hx
      · exact ha
      · exact h.1 x hx
    · split
      · exact List.pairwise_cons.2 h
      · rename_i h1 h2
        refine List.pairwise_cons.2 ⟨fun x hx => ?_, List.pairwise_cons.2 h⟩
        rcases List.mem_cons.1 hx with rfl | hx
        · omega
        · have := h.1 x hx
          omega
theorem in_put {l : List Int} {n : Int} (h : InN l) (hn : 0 ≤ n ∧ n < 80) : InN (putN l n) := by
  intro x hx
  rcases (mem_put l n x).1 hx with rfl | hx
  · exact hn
  · exact h x hx
theorem put_len (l : List Int) (n : Int) : putN l n = l ∨ (putN l n).length = l.length + 1 := by
  induction l with
  | nil => exact .inr rfl
  | cons a l ih =>
    unfold putN
    split
    · rcases ih with h | h
      · exact .inl (by rw [h])
      · exact .inr (by simp [h])
    · split
      · exact .inl rfl
      · exact .inr (by simp)
theorem up_len {l : List Int} {a b : Int} (hu : UpN l) (hi : ∀ x ∈ l, a ≤ x ∧ x < b) (hab : a ≤ b) : (l.length : Int) ≤ b - a := by
  induction l generalizing a with
  | nil => simp; omega
  | cons c l ih =>
    unfold UpN at hu ih
    rw [List.pairwise_cons] at hu
    have hc := hi c (List.mem_cons_self ..)
    have k := ih (a := c + 1) hu.2 (fun x hx => ⟨by have := hu.1 x hx; omega, (hi x (List.mem_cons_of_mem _ hx)).2⟩) (by omega)
    rw [List.length_cons]
    omega
theorem in_len {l : List Int} (hu : UpN l) (hi : InN l) : l.length ≤ 80 := by
  have := up_len hu hi (by omega)
  omega
end Go.Proofs.Ytjjdfniemlcnnaa

/- What the specification's l1Has answers at numbers in memory. -/
namespace Go.Proofs.Ytjjdfniemlcnnaa
open Go.RowKit

theorem hasN_next {l : List Int} {x : Int} {k : Nat} (hk : k < l.length) (h : hasN (l.take k) x = false) (e : (l.getD k 0 == x) = false) : hasN (l.take (k + 1)) x = false := by
  rw [List.take_add_one, List.getElem?_eq_getElem hk]
  rw [show l.getD k 0 = l[k] by simp [List.getD_eq_getElem?_getD, List.getElem?_eq_getElem hk]] at e
  simp only [hasN, Option.toList_some, List.any_append, List.any_cons, List.any_nil, Bool.or_false, e]
  exact h
theorem hasN_at {l : List Int} {x : Int} {k : Nat} (hk : k < l.length) (e : (l.getD k 0 == x) = true) : hasN l x = true := by
  rw [show l.getD k 0 = l[k] by simp [List.getD_eq_getElem?_getD, List.getElem?_eq_getElem hk]] at e
  rw [hasN_iff, ← eq_of_beq e]
  exact List.getElem_mem hk
set_option maxRecDepth 100000 in
set_option maxHeartbeats 800000 in
theorem s_l1Has (a : Option Addr) (L : List Int) (c : Nat) (x : Int) (w : World) (hl : L.length ≤ 1048576) (R : RowN .i64 a L w) :
    Calls Try.prog 81 #[.slice a L.length c, .int .i64 x] w fun e w' => e = .returned (.bool (hasN L x)) ∧ w' = w := by
  generalize hn : L.length = n at *
  go_enter Try.func81, Try.ntmps81
  go_wp2_with fail
  go_loop [4, 9] (fun _ i => ∃ k : Nat, k ≤ n ∧ i = .int .i64 k ∧ hasN (L.take k) x = false) (fun _ i => n - (intOf i).toNat)
  case atStart => exact ⟨0, Nat.zero_le _, rfl, rfl⟩
  case round =>
    obtain ⟨k, hk, rfl, hno⟩ := hrel
    by_cases hlt : k < n
    · obtain ⟨b, off, rfl, hbw, e0⟩ := R k (by omega)
      have hlt' : (k : Int) < (n : Int) := by omega
      by_cases he : (L.getD k 0 == x) = true
      · have hS := hide (hasN_at (by omega) he)
        clear hno R
        generalize L.getD k 0 = y at *
        go_wp2_with fail
        go_ret
        exact ⟨congrArg (fun b => Ending.returned (.bool b)) hS.out.symm, rfl⟩
      · have he : (L.getD k 0 == x) = false := by simpa using he
        have hS := hide (hasN_next (by omega) hno he)
        clear hno R
        generalize L.getD k 0 = y at *
        go_wp2_with fail
        exact ⟨⟨k + 1, by omega, by go_num, hS.out⟩, by simp [intOf]; omega⟩
    · have hS : Hid (hasN L x = false) := by
        rw [List.take_of_length_le (by omega)] at hno
        exact hno
      have hlt' : ¬ (k : Int) < (n : Int) := by omega
      clear hno R
      go_wp2_with fail
      go_ret
      exact ⟨congrArg (fun b => Ending.returned (.bool b)) hS.out.symm, rfl⟩
end Go.Proofs.Ytjjdfniemlcnnaa

namespace Go.Proofs.Ytjjdfniemlcnnaa
open Go.RowKit

theorem s_hasI (a : Option Addr) (n c : Nat) (g : Nat → Int) (x : Int) (w : World) (hl : n ≤ 1048576) (hR : RowInt a n g w) :
    Calls Try.prog 81 #[.slice a n c, .int .i64 x] w fun e w' => e = .returned (.bool (coB n g x)) ∧ Below w.heap.size w w' := by
  have h := s_l1Has a ((List.range n).map g) c x w (by simpa using hl) hR.rowN
  have e : hasN ((List.range n).map g) x = coB n g x := by
    simp only [hasN, coB, List.any_map]
    rfl
  rw [e] at h
  simp only [List.length_map, List.length_range] at h
  refine h.mono ?_
  rintro e w' ⟨rfl, rfl⟩
  exact ⟨rfl, Below.refl _ _⟩
end Go.Proofs.Ytjjdfniemlcnnaa
