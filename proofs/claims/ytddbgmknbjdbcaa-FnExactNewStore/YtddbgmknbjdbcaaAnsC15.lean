/- Commands as an answer: marked, looked at again. -/
import Derived.Test.YtddbgmknbjdbcaaCmd15
namespace Go.Proofs.Ytddbgmknbjdbcaa
open Go.RowKit

/-- N leaves in block g, that may be written; path i lies in block X i, with room K i. -/
def OneCA (g : Nat) (X K : Nat → Nat) (T : Nat → Cm15) (w : World) (i : Nat) : Prop := MutF w g (i * 3) [.bool (T i).s, .slice (some ⟨X i, 0, none⟩) (T i).t.n (K i), .string (T i).t.v] ∧ (T i).t.n ≤ K i ∧ OutStr (X i) (T i).t.n (T i).t.n (T i).t.p w
def RowCA (g N : Nat) (X K : Nat → Nat) (T : Nat → Cm15) (w : World) : Prop := ∀ i, i < N → OneCA g X K T w i
theorem RowCA.below {g N : Nat} {X K : Nat → Nat} {T : Nat → Cm15} {w w' : World} (h : RowCA g N X K T w) (b : Below w.heap.size w w') : RowCA g N X K T w' := fun i hi => ⟨(h i hi).1.below b, (h i hi).2.1, (h i hi).2.2.below b⟩
theorem RowCA.onlyP {P : Nat → Prop} {g N : Nat} {X K : Nat → Nat} {T : Nat → Cm15} {w w' : World} (h : RowCA g N X K T w) (b : OnlyP P w w') (hP : ∀ k, BlkF g N X k → ¬ P k) : RowCA g N X K T w' :=
  fun i hi => ⟨(h i hi).1.onlyP b (hP _ (Or.inl rfl)), (h i hi).2.1, (h i hi).2.2.onlyP b (hP _ (Or.inr ⟨i, hi, rfl⟩))⟩
theorem RowCA.row {g N : Nat} {X K : Nat → Nat} {T : Nat → Cm15} {w : World} (h : RowCA g N X K T w) : RowC (some ⟨g, 0, none⟩) N T w := by
  intro i hi
  obtain ⟨M, h2, o⟩ := h i hi
  exact ⟨g, 0, _, _, rfl, M.1, by rw [Nat.zero_add]; exact M.2.1 0 _ rfl, by rw [Nat.zero_add]; exact M.2.1 1 _ rfl, by rw [Nat.zero_add]; exact M.2.1 2 _ rfl, h2, o.row⟩
/-- How many words the first k commands have. -/
def totC (T : Nat → Cm15) : Nat → Nat
  | 0 => 0
  | k + 1 => totC T k + (T k).t.n
theorem totC_mono (T : Nat → Cm15) {k n : Nat} (h : k ≤ n) : totC T k ≤ totC T n := by
  induction n with
  | zero => have : k = 0 := by omega
            subst this; exact Nat.le_refl _
  | succ n ih =>
    by_cases e : k = n + 1
    · subst e; exact Nat.le_refl _
    · exact Nat.le_trans (ih (by omega)) (Nat.le_add_right _ _)
/-- A marked command, from k on. -/
def mkCm (k : Nat) (t : Cm15) : Cm15 := ⟨((k : Int) % 3 == 0), ⟨t.t.n, fun j => mt (k + 1 + j), mt (k + 1 + t.t.n)⟩⟩
/-- The first mark of command i. -/
def kmC (k0 : Nat) (T : Nat → Cm15) (i : Nat) : Nat := k0 + 2 * i + totC T i
theorem kmC_succ (k0 : Nat) (T : Nat → Cm15) (i : Nat) : ((kmC k0 T (i + 1) : Nat) : Int) = (kmC k0 T i : Int) + 1 + ((T i).t.n : Int) + 1 := by
  unfold kmC
  have h2 : totC T (i + 1) = totC T i + (T i).t.n := rfl
  omega
theorem kmC_le (k0 : Nat) (T : Nat → Cm15) {k n : Nat} (h : k ≤ n) (hn : n ≤ 2097152) (ht : totC T n ≤ 2097152) (h0 : k0 ≤ 10000000) : kmC k0 T k ≤ 20000000 := by
  unfold kmC
  have := totC_mono T h
  omega
def halfC (k0 : Nat) (T : Nat → Cm15) (k : Nat) (i : Nat) : Cm15 := if i < k then mkCm (kmC k0 T i) (T i) else T i
theorem halfC_lt {k0 : Nat} {T : Nat → Cm15} {k i : Nat} (h : i < k) : halfC k0 T k i = mkCm (kmC k0 T i) (T i) := if_pos h
theorem halfC_ge {k0 : Nat} {T : Nat → Cm15} {k i : Nat} (h : ¬ i < k) : halfC k0 T k i = T i := if_neg h
theorem halfC_zero (k0 : Nat) (T : Nat → Cm15) : halfC k0 T 0 = T := by
  funext i
  exact halfC_ge (by omega)
theorem halfC_other {k0 : Nat} {T : Nat → Cm15} {k i : Nat} (h : i ≠ k) : halfC k0 T (k + 1) i = halfC k0 T k i := by
  unfold halfC
  by_cases e : i < k
  · rw [if_pos e, if_pos (by omega)]
  · rw [if_neg e, if_neg (by omega)]
/-- All but leaf k. -/
def OthC (g N : Nat) (X K : Nat → Nat) (T : Nat → Cm15) (k : Nat) (w : World) : Prop := ∀ i, i < N → i ≠ k → OneCA g X K T w i
theorem OthC.onlyP {P : Nat → Prop} {g N : Nat} {X K : Nat → Nat} {T : Nat → Cm15} {k : Nat} {w w' : World} (h : OthC g N X K T k w) (b : OnlyP P w w') (hg : ¬ P g) (hP : ∀ i, i < N → i ≠ k → ¬ P (X i)) : OthC g N X K T k w' :=
  fun i hi hne => ⟨(h i hi hne).1.onlyP b hg, (h i hi hne).2.1, (h i hi hne).2.2.onlyP b (hP i hi hne)⟩
theorem OthC.below {g N : Nat} {X K : Nat → Nat} {T : Nat → Cm15} {k : Nat} {w w' : World} (h : OthC g N X K T k w) (b : Below w.heap.size w w') : OthC g N X K T k w' :=
  fun i hi hne => ⟨(h i hi hne).1.below b, (h i hi hne).2.1, (h i hi hne).2.2.below b⟩
theorem OthC.set {g N : Nat} {X K : Nat → Nat} {T : Nat → Cm15} {k : Nat} {w : World} (h : OthC g N X K T k w) (hs : SepF g N X) (j : Nat) (hj : j < 3) (v : Value) : OthC g N X K T k (w.setCell ⟨g, k * 3 + j, none⟩ v) := by
  intro i hi hne
  obtain ⟨M, h2, o⟩ := h i hi hne
  refine ⟨M.far ?_ v, h2, o.other (hs i hi).1 _ _⟩
  show k * 3 + j < i * 3 ∨ i * 3 + 3 ≤ k * 3 + j
  omega
theorem RowCA.step {g N : Nat} {X K : Nat → Nat} {T : Nat → Cm15} {k0 k : Nat} {w : World} (h : OthC g N X K (halfC k0 T k) k w) (M : OneCA g X K (fun _ => mkCm (kmC k0 T k) (T k)) w k) : RowCA g N X K (halfC k0 T (k + 1)) w := by
  intro i hi
  unfold OneCA
  by_cases e : i = k
  · subst e
    rw [halfC_lt (Nat.lt_succ_self i)]
    exact M
  · rw [halfC_other e]
    exact h i hi e
set_option maxRecDepth 100000 in
set_option maxHeartbeats 3200000 in
theorem w_markCommandS (g N cap : Nat) (X K : Nat → Nat) (T : Nat → Cm15) (k0 : Nat) (w : World) (hn : N ≤ 2097152) (ht : totC T N ≤ 2097152) (hk1 : 1 ≤ k0) (hk2 : k0 ≤ 10000000) (hs : SepF g N X) (hR : RowCA g N X K T w) :
    Calls Try.prog 25 #[.slice (some ⟨g, 0, none⟩) N cap, .int .i64 (k0 : Int)] w fun e w' => e = .returned (.int .i64 (kmC k0 T N : Int)) ∧ RowCA g N X K (halfC k0 T N) w' ∧ OnlyP (BlkF g N X) w w' := by
  have h00 : Hid ((k0 : Int) = (kmC k0 T 0 : Int)) := by show _ = _; unfold kmC; simp [totC]
  go_enter Try.func25, Try.ntmps25
  go_wp2_with fail
  go_loopw [1, 5] (fun x y wr => ∃ k : Nat, x = .int .i64 (kmC k0 T k : Int) ∧ y = .int .i64 k ∧ k ≤ N ∧ RowCA g N X K (halfC k0 T k) wr ∧ OnlyP (BlkF g N X) w wr) (fun _ y _ => N - (intOf y).toNat)
  case atStart => exact ⟨0, by rw [← h00.out], rfl, Nat.zero_le _, by rw [halfC_zero]; exact hR, OnlyP.refl _ _⟩
  case round =>
    clear hR h00
    obtain ⟨k, rfl, rfl, hk, RA, OS⟩ := hrel
    by_cases hlt : k < N
    · have hlt' : (k : Int) < (N : Int) := by omega
      have hko := kmC_le k0 T (Nat.le_of_lt hlt) hn ht hk2
      have hkp : 1 ≤ kmC k0 T k := by unfold kmC; omega
      have hks := hide (kmC_succ k0 T k)
      have hOth : OthC g N X K (halfC k0 T k) k wr := fun i hi _ => RA i hi
      obtain ⟨M, hcap, o1⟩ := RA k hlt
      rw [halfC_ge (Nat.lt_irrefl k)] at M hcap o1
      have hlo : (T k).t.n ≤ 2097152 := by
        have h1 := totC_mono T (show k + 1 ≤ N by omega)
        have h2 : totC T (k + 1) = totC T k + (T k).t.n := rfl
        omega
      have hfin := hide (fun w h M => RowCA.step (g := g) (N := N) (X := X) (K := K) (T := T) (k0 := k0) (k := k) (w := w) h M)
      have bg : BlkF g N X g := Or.inl rfl
      have bx : BlkF g N X (X k) := Or.inr ⟨k, hlt, rfl⟩
      obtain ⟨s1, s2⟩ := hs k hlt
      have hX := hide (fun w w' (h : OthC g N X K (halfC k0 T k) k w) (b : Only (X k) w w') => h.onlyP (OnlyP.of_only (P := fun z => z = X k) b rfl) (fun e => s1 e.symm) (fun i hi hne e => s2 i hi hne e))
      have hB := hide (fun w w' (h : OthC g N X K (halfC k0 T k) k w) (b : Below w.heap.size w w') => h.below b)
      have hSt := hide (fun w (h : OthC g N X K (halfC k0 T k) k w) j hj v => h.set hs j hj v)
      have hOne : Hid (∀ w, MutF w g (k * 3) [.bool ((kmC k0 T k : Int) % 3 == 0), .slice (some ⟨X k, 0, none⟩) (T k).t.n (K k), .string (mt (kmC k0 T k + 1 + (T k).t.n))] → OutStr (X k) (T k).t.n (T k).t.n (fun i => mt (kmC k0 T k + 1 + i)) w → OneCA g X K (fun _ => mkCm (kmC k0 T k) (T k)) w k) := fun w a b => ⟨a, hcap, b⟩
      generalize OneCA g X K (fun _ => mkCm (kmC k0 T k) (T k)) = ONE at *
      generalize OthC g N X K (halfC k0 T k) k = OT at *
      generalize BlkF g N X = BK at *
      generalize X k = x at *
      generalize K k = kx at *
      generalize kmC k0 T k = km at *
      generalize T k = t at *
      obtain ⟨ts, tn, tp, tv⟩ := t
      dsimp only at *
      have MS := hide (fun w O => w_markStringS x tn kx tp (km + 1) w (by omega) (by omega) (by omega) O)
      have MT := hide (fun w => w_markText (km + 1 + tn) w (by omega) (by omega))
      rw [show ((km + 1 + tn : Nat) : Int) = (km : Int) + 1 + (tn : Int) by omega] at MT
      rw [show ((km + 1 : Nat) : Int) = (km : Int) + 1 by omega] at MS
      generalize hbs : ((km : Int) % 3 == 0) = bs at *
      clear RA hs ht
      have m0 := M.2.1 0 _ rfl
      have m1 := M.2.1 1 _ rfl
      have m2 := M.2.1 2 _ rfl
      have z0 := M.2.2 0 (by simp)
      have hgl := M.1
      simp only [Nat.add_zero] at m0 z0
      have M1 : MutF (wr.setCell ⟨g, k * 3, none⟩ (.bool bs)) g (k * 3) [.bool bs, .slice (some ⟨x, 0, none⟩) tn kx, .string tv] := by
        refine ⟨by simpa using M.1, fun i v hv => ?_, fun i hi => by simpa [go_sem] using M.2.2 i (by simpa using hi)⟩
        match i, hv with
        | 0, hv => simp at hv; rw [← hv]; simp [go_sem, m0]
        | 1, hv => simp at hv; rw [← hv, World.cell?_setCell_other _ _ _ _ (by simp)]; exact M.2.1 1 _ rfl
        | 2, hv => simp at hv; rw [← hv, World.cell?_setCell_other _ _ _ _ (by simp)]; exact M.2.1 2 _ rfl
        | i + 3, hv => simp at hv
      have O1 := hSt.out _ hOth 0 (by omega) (.bool bs)
      have S1 := OS.set15 bg (k * 3) (.bool bs)
      have p1 := o1.other (d := g) s1 (k * 3) (.bool bs)
      simp only [Nat.add_zero] at O1
      go_wp2_with fail
      generalize wr.setCell ⟨g, k * 3, none⟩ (.bool bs) = w1 at *
      clear m0 m1 m2 z0 M o1 hOth OS hgl
      refine (MS.out _ p1).mono ?_
      rintro e w2 ⟨rfl, b2, o2⟩
      have M2 := M1.onlyP (OnlyP.of_only (P := fun z => z = x) b2 rfl) (fun e => s1 e.symm)
      have O2 := hX.out _ _ O1 b2
      have S2 := S1.trans (OnlyP.of_only b2 bx)
      clear b2 MS M1 p1 O1 S1 hX
      have hgl := M2.1
      go_wp2_with fail
      refine (MT.out _).mono ?_
      rintro e w3 ⟨rfl, b3⟩
      have M3 := M2.below b3
      have O3 := hB.out _ _ O2 b3
      have S3 := S2.trans (OnlyP.of_below b3)
      have o3 := o2.below b3
      clear b3 MT M2 O2 S2 o2 hB
      have m1 := M3.2.1 2 _ rfl
      have z1 := M3.2.2 2 (by simp)
      have M4 : MutF (w3.setCell ⟨g, k * 3 + 2, none⟩ (.string (mt (km + 1 + tn)))) g (k * 3) [.bool bs, .slice (some ⟨x, 0, none⟩) tn kx, .string (mt (km + 1 + tn))] := by
        refine ⟨by simpa using M3.1, fun i v hv => ?_, fun i hi => by simpa [go_sem] using M3.2.2 i (by simpa using hi)⟩
        match i, hv with
        | 0, hv => simp at hv; rw [← hv, World.cell?_setCell_other _ _ _ _ (by simp)]; exact M3.2.1 0 _ rfl
        | 1, hv => simp at hv; rw [← hv, World.cell?_setCell_other _ _ _ _ (by simp)]; exact M3.2.1 1 _ rfl
        | 2, hv => simp at hv; rw [← hv]; simp [go_sem, m1]
        | i + 3, hv => simp at hv
      have O4 := hSt.out _ O3 2 (by omega) (.string (mt (km + 1 + tn)))
      have S4 := S3.set15 bg (k * 3 + 2) (.string (mt (km + 1 + tn)))
      have o4 := o3.other (d := g) s1 (k * 3 + 2) (.string (mt (km + 1 + tn)))
      have F4 := hide (hfin.out _ O4 (hOne.out _ M4 o4))
      clear M3 O3 S3 o3 hSt hfin hOne M4 O4 o4
      go_wp2_with fail
      exact ⟨⟨k + 1, by rw [hks.out], by go_num, by omega, F4.out, S4⟩, by simp [intOf]; omega⟩
    · have hlt' : ¬ (k : Int) < (N : Int) := by omega
      obtain rfl : k = N := by omega
      go_wp2_with fail
      go_ret
      exact ⟨rfl, RA, OS⟩
theorem w_markCommandS0 (a : Option Addr) (cap : Nat) (k0 : Nat) (w : World) :
    Calls Try.prog 25 #[.slice a 0 cap, .int .i64 (k0 : Int)] w fun e w' => e = .returned (.int .i64 (k0 : Int)) ∧ w' = w := by
  go_enter Try.func25, Try.ntmps25
  go_wp2_with fail
  go_loopw [1, 5] (fun z y wr => z = .int .i64 (k0 : Int) ∧ y = .int .i64 0 ∧ wr = w) (fun _ _ _ => 0)
  case atStart => exact ⟨rfl, rfl, rfl⟩
  case round =>
    obtain ⟨rfl, rfl, rfl⟩ := hrel
    go_wp2_with fail
    go_ret
    exact ⟨rfl, rfl⟩
set_option maxRecDepth 100000 in
set_option maxHeartbeats 3200000 in
theorem w_heldCommandS (a : Option Addr) (N cap : Nat) (T : Nat → Cm15) (k0 : Nat) (w : World) (hn : N ≤ 2097152) (ht : totC T N ≤ 2097152) (hk1 : 1 ≤ k0) (hk2 : k0 ≤ 10000000) (hR : RowC a N (halfC k0 T N) w) :
    Calls Try.prog 26 #[.slice a N cap, .int .i64 (k0 : Int)] w fun e w' => e = .returned (.int .i64 (kmC k0 T N : Int)) ∧ Below w.heap.size w w' := by
  have h00 : Hid ((k0 : Int) = (kmC k0 T 0 : Int)) := by show _ = _; unfold kmC; simp [totC]
  go_enter Try.func26, Try.ntmps26
  go_wp2_with fail
  go_loopw [1, 5] (fun x y wr => ∃ k : Nat, x = .int .i64 (kmC k0 T k : Int) ∧ y = .int .i64 k ∧ k ≤ N ∧ Below w.heap.size w wr) (fun _ y _ => N - (intOf y).toNat)
  case atStart => exact ⟨0, by rw [← h00.out], rfl, Nat.zero_le _, Below.refl _ _⟩
  case round =>
    clear h00
    obtain ⟨k, rfl, rfl, hk, hb⟩ := hrel
    by_cases hlt : k < N
    · have hlt' : (k : Int) < (N : Int) := by omega
      have hko := kmC_le k0 T (Nat.le_of_lt hlt) hn ht hk2
      have hkp : 1 ≤ kmC k0 T k := by unfold kmC; omega
      have hks := hide (kmC_succ k0 T k)
      have hlo : (T k).t.n ≤ 2097152 := by
        have h1 := totC_mono T (show k + 1 ≤ N by omega)
        have h2 : totC T (k + 1) = totC T k + (T k).t.n := rfl
        omega
      obtain ⟨b, off, a0, c0, rfl, hbw, us, u0, u1, _, R0⟩ := hR k hlt
      rw [halfC_lt hlt] at us u0 u1 R0
      generalize kmC k0 T k = km at *
      generalize T k = t at *
      obtain ⟨ts, tn, tp, tv⟩ := t
      simp only [mkCm] at us u0 u1 R0
      dsimp only at *
      replace us := (hb.cell (p := ⟨b, off + k * 3, none⟩) hbw).trans us
      replace u0 := (hb.cell (p := ⟨b, off + k * 3 + 1, none⟩) hbw).trans u0
      replace u1 := (hb.cell (p := ⟨b, off + k * 3 + 2, none⟩) hbw).trans u1
      have HS := hide (fun w R => w_heldStringS a0 tn c0 (km + 1) w (by omega) (by omega) (by omega) R)
      have MT := hide (fun w => w_markText (km + 1 + tn) w (by omega) (by omega))
      rw [show ((km + 1 + tn : Nat) : Int) = (km : Int) + 1 + (tn : Int) by omega] at MT
      rw [show ((km + 1 : Nat) : Int) = (km : Int) + 1 by omega] at HS
      generalize hbs : ((km : Int) % 3 == 0) = bs at *
      have kbs : (bs != bs) = false := by simp
      have g1 : ¬ ((km : Int) + 1 + (tn : Int) < 0) := by omega
      clear hR ht
      generalize mt (km + 1 + tn) = MX at *
      have hlen : (N : Int) ≤ 2097152 := by omega
      go_wp2_with fail
      refine (HS.out _ (R0.below hb)).mono ?_
      rintro e w2 ⟨rfl, b2⟩
      replace u1 := cell_regrown ((b2.cell (p := ⟨b, off + k * 3 + 2, none⟩) (Nat.lt_of_lt_of_le hbw hb.size)).trans u1)
      have d2 := hb.trans (b2.mono hb.size)
      clear b2 u0 us HS hb
      go_wp2_with fail
      refine wp_region_quiet_below (by kernel_rfl) (by kernel_rfl) ?_
      repeat (first | go_big_quiet_step (((go_at_call 50; exact Calls.regrown_of (MT.out _)))) | quiet_step (((go_at_call 50; exact Calls.regrown_of (MT.out _)))))
      refine wpQuiet_nil ?_
      intro _ hw'
      obtain ⟨⟨dq, osq⟩, hw''⟩ := hw'
      subst hw''
      have hq2 := below_regrown w2 dq osq
      generalize Go.Sort.grow (redrawn w2 dq) osq = wq at hq2 ⊢
      have hbq := d2.trans (hq2.mono d2.size)
      clear hq2 u1
      go_wp2_with fail
      exact ⟨⟨k + 1, by rw [hks.out], by go_num, by omega, hbq⟩, by simp [intOf]; omega⟩
    · have hlt' : ¬ (k : Int) < (N : Int) := by omega
      obtain rfl : k = N := by omega
      clear hR
      go_wp2_with fail
      go_ret
      exact ⟨rfl, hb⟩
/-- N leaves at va; their blocks are P's. -/
def AnsC (va : Option Addr) (N : Nat) (T : Nat → Cm15) (P : Nat → Prop) (w : World) : Prop := RowC va N T w ∧ (N = 0 ∨ ∃ g X K, va = some ⟨g, 0, none⟩ ∧ RowCA g N X K T w ∧ SepF g N X ∧ ∀ k, BlkF g N X k → P k)
theorem AnsC.below {va : Option Addr} {N : Nat} {T : Nat → Cm15} {P : Nat → Prop} {w w' : World} (h : AnsC va N T P w) (b : Below w.heap.size w w') : AnsC va N T P w' := by
  refine ⟨h.1.below b, ?_⟩
  rcases h.2 with h | ⟨g, X, K, h1, h2, h3, h4⟩
  · exact .inl h
  · exact .inr ⟨g, X, K, h1, h2.below b, h3, h4⟩
theorem AnsC.onlyP {S : Nat → Prop} {va : Option Addr} {N : Nat} {T : Nat → Cm15} {P : Nat → Prop} {w w' : World} (h : AnsC va N T P w) (b : OnlyP S w w') (hS : ∀ k, P k → ¬ S k) : AnsC va N T P w' := by
  rcases h.2 with rfl | ⟨g, X, K, rfl, h2, h3, h4⟩
  · exact ⟨fun _ hi => absurd hi (Nat.not_lt_zero _), .inl rfl⟩
  · have q := h2.onlyP b (fun k hk => hS k (h4 k hk))
    exact ⟨q.row, .inr ⟨g, X, K, rfl, q, h3, h4⟩⟩
theorem w_markAnsC (va : Option Addr) (vc N : Nat) (T : Nat → Cm15) (P : Nat → Prop) (k0 : Nat) (w : World) (hn : N ≤ 2097152) (ht : totC T N ≤ 2097152) (hk1 : 1 ≤ k0) (hk2 : k0 ≤ 10000000) (h : AnsC va N T P w) :
    Calls Try.prog 25 #[.slice va N vc, .int .i64 (k0 : Int)] w fun e w' => e = .returned (.int .i64 (kmC k0 T N : Int)) ∧ AnsC va N (halfC k0 T N) P w' ∧ OnlyP P w w' := by
  rcases h.2 with rfl | ⟨g, X, K, rfl, h2, h3, h4⟩
  · refine (w_markCommandS0 va vc k0 w).mono ?_
    rintro e w' ⟨rfl, rfl⟩
    exact ⟨by simp [kmC, totC], ⟨fun _ hi => absurd hi (Nat.not_lt_zero _), .inl rfl⟩, OnlyP.refl _ _⟩
  · refine (w_markCommandS g N vc X K T k0 w hn ht hk1 hk2 h3 h2).mono ?_
    rintro e w' ⟨rfl, hR', hO⟩
    exact ⟨rfl, ⟨hR'.row, .inr ⟨g, X, K, rfl, hR', h3, h4⟩⟩, hO.mono (fun k _ hk => h4 k hk)⟩
/-- The blocks of a list of leaves of one's own. -/
def ownPC (v : Value) (L : List EC15) (k : Nat) : Prop := v.ownBlock = some k ∨ ∃ e, e ∈ L ∧ e.x = k
theorem LsC.ans {base : Nat} {v : Value} {L : List EC15} {M : List Cm15} {w : World} (h : LsC base v L w) (hM : L.map (·.c) = M) : ∃ va vc, v = .slice va M.length vc ∧ AnsC va M.length (TC M) (ownPC v L) w ∧ ∀ k, ownPC v L k → base ≤ k ∧ k < w.heap.size := by
  subst hM
  have hl : (L.map (·.c)).length = L.length := by simp
  obtain ⟨a, cap, hv, hrow⟩ := h.row
  have hP : ∀ k, ownPC v L k → base ≤ k ∧ k < w.heap.size := by
    intro k hk
    rcases hk with hk | ⟨e, he, rfl⟩
    · exact ownW_lt h.1 hk
    · exact ⟨(h.2.1 e he).1, h.lt he⟩
  refine ⟨a, cap, by rw [hl]; exact hv, ?_, hP⟩
  rw [hl]
  refine ⟨hrow, ?_⟩
  by_cases h0 : L.length = 0
  · exact .inl h0
  · right
    obtain ⟨a', cap', hv', hr, hc⟩ := ownW_row h.1
    rw [hv] at hv'
    simp only [Value.slice.injEq, true_and] at hv'
    obtain ⟨rfl, rfl⟩ := hv'
    rcases hc with ⟨_, _, hh⟩ | ⟨g, rfl, hg, hgl, hcap, hf⟩
    · exact absurd hh h0
    · have hTF : ∀ i (hi : i < L.length), TC (L.map (·.c)) i = (L[i]).c := fun i hi => by
        rw [TC_eq (by simpa using hi)]
        simp
      refine ⟨g, fun i => if hi : i < L.length then (L[i]).x else 0, fun i => if hi : i < L.length then (L[i]).k else 0, rfl, fun i hi => ?_, fun i hi => ?_, fun k hk => ?_⟩
      · obtain ⟨e0, e1, e2⟩ := ecs_at hi
        obtain ⟨_, o2, o3⟩ := h.2.1 _ (List.getElem_mem hi)
        unfold OneCA
        simp only [dif_pos hi]
        rw [hTF i hi]
        refine ⟨⟨hgl, fun q v hv => ?_, fun q _ => hf _⟩, o2, o3⟩
        match q, hv with
        | 0, hv =>
          simp at hv
          obtain ⟨b1, f1, hab, _, c1⟩ := hr _ _ e0
          simp only [Option.some.injEq, Addr.mk.injEq, and_true] at hab
          obtain ⟨rfl, rfl⟩ := hab
          rw [← hv]
          simpa [EC15.c] using c1
        | 1, hv =>
          simp at hv
          obtain ⟨b1, f1, hab, _, c1⟩ := hr _ _ e1
          simp only [Option.some.injEq, Addr.mk.injEq, and_true] at hab
          obtain ⟨rfl, rfl⟩ := hab
          rw [← hv]
          simpa [EC15.c] using c1
        | 2, hv =>
          simp at hv
          obtain ⟨b1, f1, hab, _, c1⟩ := hr _ _ e2
          simp only [Option.some.injEq, Addr.mk.injEq, and_true] at hab
          obtain ⟨rfl, rfl⟩ := hab
          rw [← hv]
          simpa [EC15.c] using c1
        | q + 3, hv => simp at hv
      · simp only [dif_pos hi]
        refine ⟨fun e => h.2.2.1 g (by rw [hv]; rfl) _ (List.getElem_mem hi) e, fun j hj hji => ?_⟩
        simp only [dif_pos hj]
        have hp := List.pairwise_iff_getElem.1 h.2.2.2
        rcases Nat.lt_or_gt_of_ne hji with hlt | hlt
        · exact hp j i hj hi hlt
        · exact fun e => hp i j hi hj hlt e.symm
      · rcases hk with rfl | ⟨i, hi, rfl⟩
        · exact Or.inl (by rw [hv]; rfl)
        · simp only [dif_pos hi]
          exact Or.inr ⟨_, List.getElem_mem hi, rfl⟩
end Go.Proofs.Ytddbgmknbjdbcaa
