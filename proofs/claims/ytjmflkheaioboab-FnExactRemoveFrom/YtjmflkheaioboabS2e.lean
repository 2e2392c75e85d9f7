/- The way down by bits, and what the specification's LookUp answers. -/
import Derived.Test.YtjmflkheaioboabS2d
import Derived.Test.YtjmflkheaioboabS2c
namespace Go.Proofs.Ytjmflkheaioboab
open Go.RowKit

/-- The number of the node at depth k on the way by the bits of x. -/
def wayAt (T : Nat → Nd) (x : Int) : Nat → Nat
  | 0 => 0
  | k + 1 => (halfN (T (wayAt T x k)).z (T (wayAt T x k)).o (bitA x k)).toNat
/-- How deep the way goes, up to k. -/
def endK (T : Nat → Nd) (x : Int) : Nat → Nat
  | 0 => 0
  | k + 1 => if endK T x k = k ∧ wayAt T x (k + 1) ≠ 0 then k + 1 else endK T x k
/-- The Value and the depth of the deepest entry among the first k nodes of the way. -/
def lookP (T : Nat → Nd) (x : Int) : Nat → Int × Int × Bool
  | 0 => (0, 0, false)
  | k + 1 => if (T (wayAt T x k)).h then ((T (wayAt T x k)).v, k, true) else lookP T x k
theorem lookP_y {T : Nat → Nd} {x : Int} {k : Nat} (h : (T (wayAt T x k)).h = true) : lookP T x (k + 1) = ((T (wayAt T x k)).v, (k : Int), true) := by
  show (if _ then _ else _) = _
  rw [if_pos h]
theorem lookP_n {T : Nat → Nd} {x : Int} {k : Nat} (h : (T (wayAt T x k)).h = false) : lookP T x (k + 1) = lookP T x k := by
  show (if _ then _ else _) = _
  rw [if_neg (by rw [h]; simp)]
theorem endK_y {T : Nat → Nd} {x : Int} {k : Nat} (h : endK T x k = k) (h1 : wayAt T x (k + 1) ≠ 0) : endK T x (k + 1) = k + 1 := by
  show (if _ then _ else _) = _
  rw [if_pos ⟨h, h1⟩]
theorem endK_n {T : Nat → Nd} {x : Int} {k : Nat} (h : endK T x k = k) (h1 : wayAt T x (k + 1) = 0) (j : Nat) (hj : k ≤ j) : endK T x j = k := by
  induction j with
  | zero => have : k = 0 := by omega
            subst this; rfl
  | succ j ih =>
    by_cases e : k = j + 1
    · rw [← e]; exact h
    · have i1 := ih (by omega)
      show (if _ then _ else _) = _
      rw [i1, if_neg]
      rintro ⟨a, b⟩
      rw [← a] at b
      exact b h1
theorem endK_le (T : Nat → Nd) (x : Int) (k : Nat) : endK T x k ≤ k := by
  induction k with
  | zero => exact Nat.le_refl _
  | succ k ih => unfold endK; split <;> omega

theorem halfN_bd {n : Nat} {T : Nat → Nd} (h : treeB n T = true) {a : Nat} (ha : a < n) (bit : Int) : 0 ≤ halfN (T a).z (T a).o bit ∧ halfN (T a).z (T a).o bit < n := by
  obtain ⟨h1, h2⟩ := tree_half h ha
  unfold halfN
  split <;> omega
theorem wayAt_lt {n : Nat} {T : Nat → Nd} (h : treeB n T = true) (h1 : 1 ≤ n) (x : Int) (k : Nat) : wayAt T x k < n := by
  induction k with
  | zero => exact h1
  | succ k ih =>
    have := halfN_bd h ih (bitA x k)
    show (halfN _ _ _).toNat < n
    omega
theorem wayAt_cast {n : Nat} {T : Nat → Nd} (h : treeB n T = true) (h1 : 1 ≤ n) (x : Int) (k : Nat) : (wayAt T x (k + 1) : Int) = halfN (T (wayAt T x k)).z (T (wayAt T x k)).o (bitA x k) := by
  have := halfN_bd h (wayAt_lt h h1 x k) (bitA x k)
  show ((halfN _ _ _).toNat : Int) = _
  omega

/-- What LookUp answers. -/
def lookA (T : Nat → Nd) (n : Nat) (x : Int) : Int × Int × Bool :=
  if (trieB n T && inB x 0 4294967295) = true then lookP T x (endK T x 32 + 1) else (0, 0, false)
theorem lookA_y {T : Nat → Nd} {n : Nat} {x : Int} (h : trieB n T = true) (hx : inB x 0 4294967295 = true) : lookA T n x = lookP T x (endK T x 32 + 1) := by unfold lookA; rw [h, hx]; rfl
theorem lookA_t {T : Nat → Nd} {n : Nat} {x : Int} (h : trieB n T = false) : lookA T n x = (0, 0, false) := by unfold lookA; rw [h]; rfl
theorem lookA_x {T : Nat → Nd} {n : Nat} {x : Int} (hx : inB x 0 4294967295 = false) : lookA T n x = (0, 0, false) := by unfold lookA; rw [hx, Bool.and_false]; rfl
def tup3 (q : Int × Int × Bool) : Value := .tuple #[.int .i64 q.1, .int .i64 q.2.1, .bool q.2.2]

set_option maxRecDepth 100000 in
set_option maxHeartbeats 1600000 in
theorem s_lookUp_yes (a0 : Option Addr) (len cap : Nat) (T : Nat → Nd) (x : Int) (w : World) (hl : len ≤ 1048576) (hE : RowT a0 len T w) (ht : trieB len T = true) (hx : inB x 0 4294967295 = true) :
    Calls Try.prog 29 #[.slice a0 len cap, .int .i64 x] w fun e w' => e = .returned (tup3 (lookP T x (endK T x 32 + 1))) ∧ Below w.heap.size w w' := by
  have s1 := hide (fun w hE => s_goodTrie a0 len cap T w hl hE)
  have s2 := hide (fun w => s_addr x w)
  obtain ⟨⟨hn1, hn2⟩, htr, _⟩ := trieB_parts ht
  rw [ht] at s1
  rw [hx] at s2
  obtain ⟨hx0, hx1⟩ := inB_iff.1 hx
  have htr := hide htr
  clear ht hx
  go_enter Try.func29, Try.ntmps29
  go_wp2_with fail
  refine (s1.out _ hE).mono ?_
  rintro e w1 ⟨rfl, hb1⟩
  go_wp2_with fail
  refine (s2.out _).mono ?_
  rintro e w2 ⟨rfl, rfl⟩
  clear s1 s2
  go_wp2_with fail
  go_loopw [7, 8, 9, 10, 11] (fun fd vl dp at_ i wr => ∃ k : Nat, k ≤ 32 ∧ i = .int .i64 k ∧ at_ = .int .i64 (wayAt T x k) ∧ endK T x k = k ∧ vl = .int .i64 (lookP T x k).1 ∧ dp = .int .i64 (lookP T x k).2.1 ∧ fd = .bool (lookP T x k).2.2 ∧ Below w.heap.size w wr) (fun _ _ _ _ i _ => 32 - (intOf i).toNat)
  case atStart => exact ⟨0, by omega, rfl, rfl, rfl, rfl, rfl, rfl, hb1⟩
  case round =>
    obtain ⟨k, hk, rfl, rfl, hend, rfl, rfl, rfl, hb⟩ := hrel
    have hwl := wayAt_lt htr.out hn1 x k
    obtain ⟨b, off, rfl, hbw, h0, h1, h2, h3⟩ := (hE.below hb) (wayAt T x k) hwl
    have hwl' : (wayAt T x k : Int) < (len : Int) := by omega
    have hcast := hide (wayAt_cast htr.out hn1 x k)
    have hEY := hide (endK_y hend)
    have hEN := hide (endK_n hend)
    have hL1 := hide (lookP_y (T := T) (x := x) (k := k))
    have hL0 := hide (lookP_n (T := T) (x := x) (k := k))
    have hfin : Hid (∀ q, lookP T x (endK T x 32 + 1) = q → tup3 (lookP T x (endK T x 32 + 1)) = .tuple #[.int .i64 q.1, .int .i64 q.2.1, .bool q.2.2]) := fun q h => by rw [h]; rfl
    have hendH := hide hend
    clear hend
    have hbit := bitA_bd x k
    generalize hwk : wayAt T x k = at0 at *
    generalize hzz : (T at0).z = z at *
    generalize hoo : (T at0).o = oo at *
    generalize hhh : (T at0).h = hh at *
    generalize hvv : (T at0).v = vv at *
    have hlp : Hid (lookP T x k = lookP T x k) := rfl
    generalize hlq : lookP T x k = lq at *
    obtain ⟨q1, q2, q3⟩ := lq
    dsimp only at *
    clear hwk hzz hoo hhh hvv hlq hlp
    cases hh with
    | true =>
      have hL := hide (hL1.out rfl)
      clear hL0 hL1
      by_cases hk32 : k = 32
      · subst hk32
        have hR := hide (hfin.out ((vv, (((32 : Nat)) : Int), true)) (by rw [hendH.out]; exact hL.out))
        clear hfin hcast hEY hEN hE
        go_wp2_with fail
        refine bodyPost_ret (v := .tuple #[.int .i64 vv, .int .i64 (((32 : Nat)) : Int), .bool true]) (by simp [results, Try.results29, go_sem]) rfl ⟨by rw [hR.out], hb⟩
      · have hk32b : ((k : Int) == 32) = false := by simp; omega
        have c1 := hide (fun w => s_bit x k w hx0 hx1 (by omega) (by omega))
        have c2 := hide (fun w => s_half z oo vv (bitA x k) true w)
        rw [← hcast.out] at c2
        have k0 := cell_regrown h0
        have k1 := cell_regrown h1
        have k2 := cell_regrown h2
        have k3 := cell_regrown h3
        generalize hnx : wayAt T x (k + 1) = nx at *
        have hnx := hide hnx
        generalize hbb : bitA x k = bb at c1 c2
        clear hbb hcast hbit
        by_cases hz : nx = 0
        · have hR := hide (hfin.out ((vv, (k : Int), true)) (by rw [hEN.out hz 32 (by omega)]; exact hL.out))
          subst hz
          clear hfin hEY hEN hE
          go_wp2_with fail
          refine wp_region_quiet_below (by kernel_rfl) (by kernel_rfl) ?_
          repeat (first | go_big_quiet_step (((first | (go_at_call 59; exact Calls.regrown_of (c1.out _)) | (go_at_call 58; exact Calls.regrown_of (c2.out _))))) | quiet_step (((first | (go_at_call 59; exact Calls.regrown_of (c1.out _)) | (go_at_call 58; exact Calls.regrown_of (c2.out _))))))
          refine wpQuiet_nil ?_
          intro _ hw'
          obtain ⟨⟨dq, osq⟩, hw''⟩ := hw'
          subst hw''
          have hq := below_regrown wr dq osq
          generalize Go.Sort.grow (redrawn wr dq) osq = wq at hq ⊢
          have hbz := hb.trans (hq.mono hb.size)
          clear k0 k1 k2 k3
          go_wp2_with fail
          refine bodyPost_ret (v := .tuple #[.int .i64 vv, .int .i64 (k : Int), .bool true]) (by simp [results, Try.results29, go_sem]) rfl ⟨by rw [hR.out], hbz⟩
        · have hE1 := hide (hEY.out hz)
          have hzb : ((nx : Int) == 0) = false := by simp; omega
          clear hfin hEY hEN hE hz
          go_wp2_with fail
          refine wp_region_quiet_below (by kernel_rfl) (by kernel_rfl) ?_
          repeat (first | go_big_quiet_step (((first | (go_at_call 59; exact Calls.regrown_of (c1.out _)) | (go_at_call 58; exact Calls.regrown_of (c2.out _))))) | quiet_step (((first | (go_at_call 59; exact Calls.regrown_of (c1.out _)) | (go_at_call 58; exact Calls.regrown_of (c2.out _))))))
          refine wpQuiet_nil ?_
          intro _ hw'
          obtain ⟨⟨dq, osq⟩, hw''⟩ := hw'
          subst hw''
          have hq := below_regrown wr dq osq
          generalize Go.Sort.grow (redrawn wr dq) osq = wq at hq ⊢
          have hbz := hb.trans (hq.mono hb.size)
          clear k0 k1 k2 k3
          go_wp2_with fail
          exact ⟨⟨k + 1, by omega, by go_num, by rw [hnx.out], hE1.out, by rw [hL.out], by rw [hL.out], by rw [hL.out], hbz⟩, by simp [intOf]; omega⟩
    | false =>
      have hL := hide (hL0.out rfl)
      clear hL0 hL1
      by_cases hk32 : k = 32
      · subst hk32
        have hR := hide (hfin.out ((q1, q2, q3)) (by rw [hendH.out]; exact hL.out))
        clear hfin hcast hEY hEN hE
        go_wp2_with fail
        refine bodyPost_ret (v := .tuple #[.int .i64 q1, .int .i64 q2, .bool q3]) (by simp [results, Try.results29, go_sem]) rfl ⟨by rw [hR.out], hb⟩
      · have hk32b : ((k : Int) == 32) = false := by simp; omega
        have c1 := hide (fun w => s_bit x k w hx0 hx1 (by omega) (by omega))
        have c2 := hide (fun w => s_half z oo vv (bitA x k) false w)
        rw [← hcast.out] at c2
        have k0 := cell_regrown h0
        have k1 := cell_regrown h1
        have k2 := cell_regrown h2
        have k3 := cell_regrown h3
        generalize hnx : wayAt T x (k + 1) = nx at *
        have hnx := hide hnx
        generalize hbb : bitA x k = bb at c1 c2
        clear hbb hcast hbit
        by_cases hz : nx = 0
        · have hR := hide (hfin.out ((q1, q2, q3)) (by rw [hEN.out hz 32 (by omega)]; exact hL.out))
          subst hz
          clear hfin hEY hEN hE
          go_wp2_with fail
          refine wp_region_quiet_below (by kernel_rfl) (by kernel_rfl) ?_
          repeat (first | go_big_quiet_step (((first | (go_at_call 59; exact Calls.regrown_of (c1.out _)) | (go_at_call 58; exact Calls.regrown_of (c2.out _))))) | quiet_step (((first | (go_at_call 59; exact Calls.regrown_of (c1.out _)) | (go_at_call 58; exact Calls.regrown_of (c2.out _))))))
          refine wpQuiet_nil ?_
          intro _ hw'
          obtain ⟨⟨dq, osq⟩, hw''⟩ := hw'
          subst hw''
          have hq := below_regrown wr dq osq
          generalize Go.Sort.grow (redrawn wr dq) osq = wq at hq ⊢
          have hbz := hb.trans (hq.mono hb.size)
          clear k0 k1 k2 k3
          go_wp2_with fail
          refine bodyPost_ret (v := .tuple #[.int .i64 q1, .int .i64 q2, .bool q3]) (by simp [results, Try.results29, go_sem]) rfl ⟨by rw [hR.out], hbz⟩
        · have hE1 := hide (hEY.out hz)
          have hzb : ((nx : Int) == 0) = false := by simp; omega
          clear hfin hEY hEN hE hz
          go_wp2_with fail
          refine wp_region_quiet_below (by kernel_rfl) (by kernel_rfl) ?_
          repeat (first | go_big_quiet_step (((first | (go_at_call 59; exact Calls.regrown_of (c1.out _)) | (go_at_call 58; exact Calls.regrown_of (c2.out _))))) | quiet_step (((first | (go_at_call 59; exact Calls.regrown_of (c1.out _)) | (go_at_call 58; exact Calls.regrown_of (c2.out _))))))
          refine wpQuiet_nil ?_
          intro _ hw'
          obtain ⟨⟨dq, osq⟩, hw''⟩ := hw'
          subst hw''
          have hq := below_regrown wr dq osq
          generalize Go.Sort.grow (redrawn wr dq) osq = wq at hq ⊢
          have hbz := hb.trans (hq.mono hb.size)
          clear k0 k1 k2 k3
          go_wp2_with fail
          exact ⟨⟨k + 1, by omega, by go_num, by rw [hnx.out], hE1.out, by rw [hL.out], by rw [hL.out], by rw [hL.out], hbz⟩, by simp [intOf]; omega⟩

set_option maxRecDepth 100000 in
set_option maxHeartbeats 800000 in
theorem s_lookUp (a0 : Option Addr) (len cap : Nat) (T : Nat → Nd) (x : Int) (w : World) (hl : len ≤ 1048576) (hE : RowT a0 len T w) :
    Calls Try.prog 29 #[.slice a0 len cap, .int .i64 x] w fun e w' => e = .returned (tup3 (lookA T len x)) ∧ Below w.heap.size w w' := by
  cases ht : trieB len T with
  | true =>
    cases hx : inB x 0 4294967295 with
    | true => rw [lookA_y ht hx]; exact s_lookUp_yes a0 len cap T x w hl hE ht hx
    | false =>
      rw [lookA_x hx]
      have s1 := hide (fun w hE => s_goodTrie a0 len cap T w hl hE)
      have s2 := hide (fun w => s_addr x w)
      rw [ht] at s1
      rw [hx] at s2
      clear ht hx
      go_enter Try.func29, Try.ntmps29
      go_wp2_with fail
      refine (s1.out _ hE).mono ?_
      rintro e w1 ⟨rfl, hb1⟩
      go_wp2_with fail
      refine (s2.out _).mono ?_
      rintro e w2 ⟨rfl, rfl⟩
      go_wp2_with fail
      refine bodyPost_ret (v := .tuple #[.int .i64 0, .int .i64 0, .bool false]) (by simp [results, Try.results29, go_sem]) rfl ⟨rfl, hb1⟩
  | false =>
    rw [lookA_t ht]
    have s1 := hide (fun w hE => s_goodTrie a0 len cap T w hl hE)
    rw [ht] at s1
    clear ht
    go_enter Try.func29, Try.ntmps29
    go_wp2_with fail
    refine (s1.out _ hE).mono ?_
    rintro e w1 ⟨rfl, hb1⟩
    go_wp2_with fail
    refine bodyPost_ret (v := .tuple #[.int .i64 0, .int .i64 0, .bool false]) (by simp [results, Try.results29, go_sem]) rfl ⟨rfl, hb1⟩
end Go.Proofs.Ytjmflkheaioboab
