/- Leaves as an answer: marked, looked at again. -/
import Derived.Test.YtnficndeblkjhaaGreatDoorGrp3
namespace Go.Proofs.YtnficndeblkjhaaGreatDoor
open Go.RowKit

/-- Cells of block b from off on; they may be written. -/
def MutF (w : World) (b off : Nat) (vs : List Value) : Prop := b < w.heap.size ∧ (∀ i v, vs[i]? = some v → w.cell? ⟨b, off + i, none⟩ = some v) ∧ ∀ i, i < vs.length → w.frozen? ⟨b, off + i, none⟩ = false
theorem MutF.below {w w' : World} {b off : Nat} {vs : List Value} (h : MutF w b off vs) (k : Below w.heap.size w w') : MutF w' b off vs :=
  ⟨Nat.lt_of_lt_of_le h.1 k.size, fun i v hv => ((bcell k).1 _ _ h.1).trans (h.2.1 i v hv), fun i hi => ((bcell k).2 _ _ h.1).trans (h.2.2 i hi)⟩
theorem MutF.onlyP {P : Nat → Prop} {w w' : World} {b off : Nat} {vs : List Value} (h : MutF w b off vs) (k : OnlyP P w w') (hn : ¬ P b) : MutF w' b off vs :=
  ⟨Nat.lt_of_lt_of_le h.1 k.2.2.2.1, fun i v hv => (k.cell h.1 hn).trans (h.2.1 i v hv), fun i hi => (k.frozen h.1 hn).trans (h.2.2 i hi)⟩
theorem MutF.far {w : World} {b off : Nat} {vs : List Value} (h : MutF w b off vs) {q : Nat} (hq : q < off ∨ off + vs.length ≤ q) (v : Value) : MutF (w.setCell ⟨b, q, none⟩ v) b off vs := by
  refine ⟨by simpa using h.1, fun i u hu => ?_, fun i hi => ?_⟩
  · have hi := (List.getElem?_eq_some_iff.1 hu).1
    rw [World.cell?_setCell_other _ _ _ _ (by simp <;> omega)]
    exact h.2.1 i u hu
  · have := h.2.2 i hi
    simpa [go_sem] using this
theorem OnlyP.set15 {P : Nat → Prop} {w w' : World} (h : OnlyP P w w') {c : Nat} (hc : P c) (o : Nat) (v : Value) : OnlyP P w (w'.setCell ⟨c, o, none⟩ v) :=
  h.trans (OnlyP.of_only ((Only.refl c w').setCell o v) hc)

/-- N leaves in block g, that may be written; path i lies in block X i, with room K i. -/
def OneFA (g : Nat) (X K : Nat → Nat) (T : Nat → Lf) (w : World) (i : Nat) : Prop := MutF w g (i * 2) [.slice (some ⟨X i, 0, none⟩) (T i).n (K i), .string (T i).v] ∧ (T i).n ≤ K i ∧ OutStr (X i) (T i).n (T i).n (T i).p w
def RowFA (g N : Nat) (X K : Nat → Nat) (T : Nat → Lf) (w : World) : Prop := ∀ i, i < N → OneFA g X K T w i
/-- The blocks of the paths are each another one's. -/
def SepF (g N : Nat) (X : Nat → Nat) : Prop := ∀ i, i < N → X i ≠ g ∧ ∀ j, j < N → j ≠ i → X j ≠ X i
/-- The blocks of a list of leaves. -/
def BlkF (g N : Nat) (X : Nat → Nat) (b : Nat) : Prop := b = g ∨ ∃ i, i < N ∧ b = X i
theorem RowFA.below {g N : Nat} {X K : Nat → Nat} {T : Nat → Lf} {w w' : World} (h : RowFA g N X K T w) (b : Below w.heap.size w w') : RowFA g N X K T w' := fun i hi => ⟨(h i hi).1.below b, (h i hi).2.1, (h i hi).2.2.below b⟩
theorem RowFA.onlyP {P : Nat → Prop} {g N : Nat} {X K : Nat → Nat} {T : Nat → Lf} {w w' : World} (h : RowFA g N X K T w) (b : OnlyP P w w') (hP : ∀ k, BlkF g N X k → ¬ P k) : RowFA g N X K T w' :=
  fun i hi => ⟨(h i hi).1.onlyP b (hP _ (Or.inl rfl)), (h i hi).2.1, (h i hi).2.2.onlyP b (hP _ (Or.inr ⟨i, hi, rfl⟩))⟩
theorem RowFA.row {g N : Nat} {X K : Nat → Nat} {T : Nat → Lf} {w : World} (h : RowFA g N X K T w) : RowF true (some ⟨g, 0, none⟩) N T w := by
  intro i hi
  obtain ⟨M, h2, o⟩ := h i hi
  exact ⟨g, 0, _, _, rfl, M.1, by rw [Nat.zero_add]; exact M.2.1 0 _ rfl, by rw [Nat.zero_add]; exact M.2.1 1 _ rfl, fun _ => h2, o.row⟩
theorem RowFO.own {c n : Nat} {X : Nat → Nat} {hi : Nat} {T : Nat → Lf} {w : World} (h : RowFO c n X hi T w) (F : FreeC c (n * 2) w) : RowFA c n X (fun i => (T i).n) T w ∧ SepF c n X ∧ ∀ k, BlkF c n X k → k = c ∨ (c < k ∧ k < hi) := by
  refine ⟨fun i hi => ?_, fun i hi => ?_, fun k hk => ?_⟩
  · obtain ⟨h1, h3, hj, h4, c0, c1, o1⟩ := h.2 i hi
    refine ⟨⟨h4, fun q v hv => ?_, fun q hq => ?_⟩, Nat.le_refl _, o1⟩
    · match q, hv with
      | 0, hv => simp at hv; rw [← hv]; exact c0
      | 1, hv => simp at hv; rw [← hv]; exact c1
      | q + 2, hv => simp at hv
    · simp at hq
      exact (F.2 _ (by omega)).2
  · obtain ⟨h1, h3, hj, _⟩ := h.2 i hi
    refine ⟨by omega, fun j hjn hji => ?_⟩
    obtain ⟨g1, g3, gj, _⟩ := h.2 j hjn
    rcases Nat.lt_or_gt_of_ne hji with hlt | hlt
    · have := hj j hlt
      omega
    · have := gj i hlt
      omega
  · rcases hk with rfl | ⟨i, hi, rfl⟩
    · exact Or.inl rfl
    · obtain ⟨h1, h3, _⟩ := h.2 i hi
      exact Or.inr ⟨by omega, by omega⟩

/-- A marked leaf, from k on. -/
def mkLf (k : Nat) (t : Lf) : Lf := ⟨t.n, fun j => mt (k + j), mt (k + t.n)⟩
/-- The first mark of leaf i. -/
def kmF (k0 : Nat) (T : Nat → Lf) (i : Nat) : Nat := k0 + i + totF T i
theorem kmF_succ (k0 : Nat) (T : Nat → Lf) (i : Nat) : ((kmF k0 T (i + 1) : Nat) : Int) = (kmF k0 T i : Int) + ((T i).n : Int) + 1 := by
  unfold kmF
  have h2 : totF T (i + 1) = totF T i + (T i).n := rfl
  omega
theorem kmF_le (k0 : Nat) (T : Nat → Lf) {k n : Nat} (h : k ≤ n) (hn : n ≤ 1048576) (ht : totF T n ≤ 1048576) (h0 : k0 ≤ 10000000) : kmF k0 T k ≤ 20000000 := by
  unfold kmF
  have := totF_mono T h
  omega
def halfF (k0 : Nat) (T : Nat → Lf) (k : Nat) (i : Nat) : Lf := if i < k then mkLf (kmF k0 T i) (T i) else T i
theorem halfF_lt {k0 : Nat} {T : Nat → Lf} {k i : Nat} (h : i < k) : halfF k0 T k i = mkLf (kmF k0 T i) (T i) := if_pos h
theorem halfF_ge {k0 : Nat} {T : Nat → Lf} {k i : Nat} (h : ¬ i < k) : halfF k0 T k i = T i := if_neg h
theorem halfF_zero (k0 : Nat) (T : Nat → Lf) : halfF k0 T 0 = T := by
  funext i
  exact halfF_ge (by omega)
theorem halfF_other {k0 : Nat} {T : Nat → Lf} {k i : Nat} (h : i ≠ k) : halfF k0 T (k + 1) i = halfF k0 T k i := by
  unfold halfF
  by_cases e : i < k
  · rw [if_pos e, if_pos (by omega)]
  · rw [if_neg e, if_neg (by omega)]
/-- All but leaf k. -/
def OthF (g N : Nat) (X K : Nat → Nat) (T : Nat → Lf) (k : Nat) (w : World) : Prop := ∀ i, i < N → i ≠ k → OneFA g X K T w i
theorem OthF.onlyP {P : Nat → Prop} {g N : Nat} {X K : Nat → Nat} {T : Nat → Lf} {k : Nat} {w w' : World} (h : OthF g N X K T k w) (b : OnlyP P w w') (hg : ¬ P g) (hP : ∀ i, i < N → i ≠ k → ¬ P (X i)) : OthF g N X K T k w' :=
  fun i hi hne => ⟨(h i hi hne).1.onlyP b hg, (h i hi hne).2.1, (h i hi hne).2.2.onlyP b (hP i hi hne)⟩
theorem OthF.below {g N : Nat} {X K : Nat → Nat} {T : Nat → Lf} {k : Nat} {w w' : World} (h : OthF g N X K T k w) (b : Below w.heap.size w w') : OthF g N X K T k w' :=
  fun i hi hne => ⟨(h i hi hne).1.below b, (h i hi hne).2.1, (h i hi hne).2.2.below b⟩
theorem OthF.set {g N : Nat} {X K : Nat → Nat} {T : Nat → Lf} {k : Nat} {w : World} (h : OthF g N X K T k w) (hs : SepF g N X) (v : Value) : OthF g N X K T k (w.setCell ⟨g, k * 2 + 1, none⟩ v) := by
  intro i hi hne
  obtain ⟨M, h2, o⟩ := h i hi hne
  refine ⟨M.far ?_ v, h2, o.other (hs i hi).1 _ _⟩
  show k * 2 + 1 < i * 2 ∨ i * 2 + 2 ≤ k * 2 + 1
  omega
theorem RowFA.step {g N : Nat} {X K : Nat → Nat} {T : Nat → Lf} {k0 k : Nat} {w : World} (h : OthF g N X K (halfF k0 T k) k w) (M : OneFA g X K (fun _ => mkLf (kmF k0 T k) (T k)) w k) : RowFA g N X K (halfF k0 T (k + 1)) w := by
  intro i hi
  unfold OneFA
  by_cases e : i = k
  · subst e
    rw [halfF_lt (Nat.lt_succ_self i)]
    exact M
  · rw [halfF_other e]
    exact h i hi e
set_option maxRecDepth 100000 in
set_option maxHeartbeats 3200000 in
theorem w_markLeafS (g N cap : Nat) (X K : Nat → Nat) (T : Nat → Lf) (k0 : Nat) (w : World) (hn : N ≤ 1048576) (ht : totF T N ≤ 1048576) (hk1 : 1 ≤ k0) (hk2 : k0 ≤ 10000000) (hs : SepF g N X) (hR : RowFA g N X K T w) :
    Calls Tryz.prog 41 #[.slice (some ⟨g, 0, none⟩) N cap, .int .i64 (k0 : Int)] w fun e w' => e = .returned (.int .i64 (kmF k0 T N : Int)) ∧ RowFA g N X K (halfF k0 T N) w' ∧ OnlyP (BlkF g N X) w w' := by
  have h00 : Hid ((k0 : Int) = (kmF k0 T 0 : Int)) := by show _ = _; unfold kmF; simp [totF]
  go_enter Tryz.func41, Tryz.ntmps41
  go_wp2_with fail
  go_loopw [1, 5] (fun x y wr => ∃ k : Nat, x = .int .i64 (kmF k0 T k : Int) ∧ y = .int .i64 k ∧ k ≤ N ∧ RowFA g N X K (halfF k0 T k) wr ∧ OnlyP (BlkF g N X) w wr) (fun _ y _ => N - (intOf y).toNat)
  case atStart => exact ⟨0, by rw [← h00.out], rfl, Nat.zero_le _, by rw [halfF_zero]; exact hR, OnlyP.refl _ _⟩
  case round =>
    clear hR h00
    obtain ⟨k, rfl, rfl, hk, RA, OS⟩ := hrel
    by_cases hlt : k < N
    · have hlt' : (k : Int) < (N : Int) := by omega
      have hko := kmF_le k0 T (Nat.le_of_lt hlt) hn ht hk2
      have hkp : 1 ≤ kmF k0 T k := by unfold kmF; omega
      have hks := hide (kmF_succ k0 T k)
      have hOth : OthF g N X K (halfF k0 T k) k wr := fun i hi _ => RA i hi
      obtain ⟨M, hcap, o1⟩ := RA k hlt
      rw [halfF_ge (Nat.lt_irrefl k)] at M hcap o1
      have hlo : (T k).n ≤ 1048576 := by
        have h1 := totF_mono T (show k + 1 ≤ N by omega)
        have h2 : totF T (k + 1) = totF T k + (T k).n := rfl
        omega
      have hfin := hide (fun w h M => RowFA.step (g := g) (N := N) (X := X) (K := K) (T := T) (k0 := k0) (k := k) (w := w) h M)
      have bg : BlkF g N X g := Or.inl rfl
      have bx : BlkF g N X (X k) := Or.inr ⟨k, hlt, rfl⟩
      obtain ⟨s1, s2⟩ := hs k hlt
      have hX := hide (fun w w' (h : OthF g N X K (halfF k0 T k) k w) (b : Only (X k) w w') => h.onlyP (OnlyP.of_only (P := fun z => z = X k) b rfl) (fun e => s1 e.symm) (fun i hi hne e => s2 i hi hne e))
      have hB := hide (fun w w' (h : OthF g N X K (halfF k0 T k) k w) (b : Below w.heap.size w w') => h.below b)
      have hSt := hide (fun w (h : OthF g N X K (halfF k0 T k) k w) v => h.set hs v)
      have hOne : Hid (∀ w, MutF w g (k * 2) [.slice (some ⟨X k, 0, none⟩) (T k).n (K k), .string (mt (kmF k0 T k + (T k).n))] → OutStr (X k) (T k).n (T k).n (fun i => mt (kmF k0 T k + i)) w → OneFA g X K (fun _ => mkLf (kmF k0 T k) (T k)) w k) := fun w a b => ⟨a, hcap, b⟩
      generalize OneFA g X K (fun _ => mkLf (kmF k0 T k) (T k)) = ONE at *
      generalize OthF g N X K (halfF k0 T k) k = OT at *
      generalize BlkF g N X = BK at *
      generalize X k = x at *
      generalize K k = kx at *
      generalize kmF k0 T k = km at *
      generalize T k = t at *
      obtain ⟨tn, tp, tv⟩ := t
      dsimp only at *
      have MS := hide (fun w O => w_markStringS x tn kx tp km w (by omega) hkp (by omega) O)
      have MT := hide (fun w => w_markText (km + tn) w (by omega) (by omega))
      rw [show ((km + tn : Nat) : Int) = (km : Int) + (tn : Int) by omega] at MT
      clear RA hs ht
      have m0 := M.2.1 0 _ rfl
      have m1 := M.2.1 1 _ rfl
      have z1 := M.2.2 1 (by simp)
      have hgl := M.1
      simp only [Nat.add_zero] at m0
      go_wp2_with fail
      refine (MS.out _ o1).mono ?_
      rintro e w2 ⟨rfl, b2, o2⟩
      have M2 := M.onlyP (OnlyP.of_only (P := fun z => z = x) b2 rfl) (fun e => s1 e.symm)
      have O2 := hX.out _ _ hOth b2
      have S2 := OS.trans (OnlyP.of_only b2 bx)
      clear b2 MS M o1 hOth OS hX m0 m1 z1
      have hgl := M2.1
      go_wp2_with fail
      refine (MT.out _).mono ?_
      rintro e w3 ⟨rfl, b3⟩
      have M3 := M2.below b3
      have O3 := hB.out _ _ O2 b3
      have S3 := S2.trans (OnlyP.of_below b3)
      have o3 := o2.below b3
      clear b3 MT M2 O2 S2 o2 hB
      have m1 := M3.2.1 1 _ rfl
      have z1 := M3.2.2 1 (by simp)
      have M4 : MutF (w3.setCell ⟨g, k * 2 + 1, none⟩ (.string (mt (km + tn)))) g (k * 2) [.slice (some ⟨x, 0, none⟩) tn kx, .string (mt (km + tn))] := by
        refine ⟨by simpa using M3.1, fun i v hv => ?_, fun i hi => by simpa [go_sem] using M3.2.2 i (by simpa using hi)⟩
        match i, hv with
        | 0, hv => 
          simp at hv; rw [← hv, World.cell?_setCell_other _ _ _ _ (by simp)]; exact M3.2.1 0 _ rfl
        | 1, hv => simp at hv; rw [← hv]; simp [go_sem, m1]
        | i + 2, hv => simp at hv
      have O4 := hSt.out _ O3 (.string (mt (km + tn)))
      have S4 := S3.set15 bg (k * 2 + 1) (.string (mt (km + tn)))
      have o4 := o3.other (d := g) s1 (k * 2 + 1) (.string (mt (km + tn)))
      have F4 := hide (hfin.out _ O4 (hOne.out _ M4 o4))
      clear M3 O3 S3 o3 hSt hfin hOne M4 O4 o4
      go_wp2_with fail
      exact ⟨⟨k + 1, by rw [hks.out], by go_num, by omega, F4.out, S4⟩, by simp [intOf]; omega⟩
    · have hlt' : ¬ (k : Int) < (N : Int) := by omega
      obtain rfl : k = N := by omega
      go_wp2_with fail
      go_ret
      exact ⟨rfl, RA, OS⟩
theorem w_markLeafS0 (a : Option Addr) (cap : Nat) (k0 : Nat) (w : World) :
    Calls Tryz.prog 41 #[.slice a 0 cap, .int .i64 (k0 : Int)] w fun e w' => e = .returned (.int .i64 (k0 : Int)) ∧ w' = w := by
  go_enter Tryz.func41, Tryz.ntmps41
  go_wp2_with fail
  go_loopw [1, 5] (fun z y wr => z = .int .i64 (k0 : Int) ∧ y = .int .i64 0 ∧ wr = w) (fun _ _ _ => 0)
  case atStart => exact ⟨rfl, rfl, rfl⟩
  case round =>
    obtain ⟨rfl, rfl, rfl⟩ := hrel
    go_wp2_with fail
    go_ret
    exact ⟨rfl, rfl⟩
set_option maxRecDepth 100000 in
set_option maxHeartbeats 3200000 in
theorem w_heldLeafS (a : Option Addr) (N cap : Nat) (T : Nat → Lf) (k0 : Nat) (w : World) (hn : N ≤ 1048576) (ht : totF T N ≤ 1048576) (hk1 : 1 ≤ k0) (hk2 : k0 ≤ 10000000) (hR : RowF true a N (halfF k0 T N) w) :
    Calls Tryz.prog 44 #[.slice a N cap, .int .i64 (k0 : Int)] w fun e w' => e = .returned (.int .i64 (kmF k0 T N : Int)) ∧ Below w.heap.size w w' := by
  have h00 : Hid ((k0 : Int) = (kmF k0 T 0 : Int)) := by show _ = _; unfold kmF; simp [totF]
  go_enter Tryz.func44, Tryz.ntmps44
  go_wp2_with fail
  go_loopw [1, 5] (fun x y wr => ∃ k : Nat, x = .int .i64 (kmF k0 T k : Int) ∧ y = .int .i64 k ∧ k ≤ N ∧ Below w.heap.size w wr) (fun _ y _ => N - (intOf y).toNat)
  case atStart => exact ⟨0, by rw [← h00.out], rfl, Nat.zero_le _, Below.refl _ _⟩
  case round =>
    clear h00
    obtain ⟨k, rfl, rfl, hk, hb⟩ := hrel
    by_cases hlt : k < N
    · have hlt' : (k : Int) < (N : Int) := by omega
      have hko := kmF_le k0 T (Nat.le_of_lt hlt) hn ht hk2
      have hkp : 1 ≤ kmF k0 T k := by unfold kmF; omega
      have hks := hide (kmF_succ k0 T k)
      have hlo : (T k).n ≤ 1048576 := by
        have h1 := totF_mono T (show k + 1 ≤ N by omega)
        have h2 : totF T (k + 1) = totF T k + (T k).n := rfl
        omega
      obtain ⟨b, off, a0, c0, rfl, hbw, u0, u1, _, R0⟩ := hR k hlt
      rw [halfF_lt hlt] at u0 u1 R0
      generalize kmF k0 T k = km at *
      generalize T k = t at *
      obtain ⟨tn, tp, tv⟩ := t
      simp only [mkLf] at u0 u1 R0
      dsimp only at *
      replace u0 := (hb.cell (p := ⟨b, off + k * 2, none⟩) hbw).trans u0
      replace u1 := (hb.cell (p := ⟨b, off + k * 2 + 1, none⟩) hbw).trans u1
      have HS := hide (fun w R => w_heldStringS a0 tn c0 km w (by omega) hkp (by omega) R)
      have MT := hide (fun w => w_markText (km + tn) w (by omega) (by omega))
      rw [show ((km + tn : Nat) : Int) = (km : Int) + (tn : Int) by omega] at MT
      have g1 : ¬ ((km : Int) + (tn : Int) < 0) := by omega
      clear hR ht
      generalize mt (km + tn) = MX at *
      have hlen : (N : Int) ≤ 1048576 := by omega
      go_wp2_with fail
      refine (HS.out _ (R0.below hb)).mono ?_
      rintro e w2 ⟨rfl, b2⟩
      replace u1 := cell_regrown ((b2.cell (p := ⟨b, off + k * 2 + 1, none⟩) (Nat.lt_of_lt_of_le hbw hb.size)).trans u1)
      have d2 := hb.trans (b2.mono hb.size)
      clear b2 u0 HS hb
      go_wp2_with fail
      refine wp_region_quiet_below (by kernel_rfl) (by kernel_rfl) ?_
      repeat (first | go_big_quiet_step (((go_at_call 48; exact Calls.regrown_of (MT.out _)))) | quiet_step (((go_at_call 48; exact Calls.regrown_of (MT.out _)))))
      refine wpQuiet_nil ?_
      intro _ hw'
      obtain ⟨⟨dq, osq⟩, hw''⟩ := hw'
      subst hw''
      have hq2 := below_regrown w2 dq osq
      generalize Go.Sort.grow (redrawn w2 dq) osq = wq at hq2 ⊢
      have hbq := d2.trans (hq2.mono d2.size)
      clear hq2 u1
      go_wp2_with fail
      exact ⟨⟨k + 1, by rw [hks.out], by go_num, by omega, hbq⟩, by simp [intOf]; omega⟩
    · have hlt' : ¬ (k : Int) < (N : Int) := by omega
      obtain rfl : k = N := by omega
      clear hR
      go_wp2_with fail
      go_ret
      exact ⟨rfl, hb⟩
/-- N leaves at va; their blocks are P's. -/
def AnsF (va : Option Addr) (N : Nat) (T : Nat → Lf) (P : Nat → Prop) (w : World) : Prop := RowF true va N T w ∧ (N = 0 ∨ ∃ g X K, va = some ⟨g, 0, none⟩ ∧ RowFA g N X K T w ∧ SepF g N X ∧ ∀ k, BlkF g N X k → P k)
theorem AnsF.below {va : Option Addr} {N : Nat} {T : Nat → Lf} {P : Nat → Prop} {w w' : World} (h : AnsF va N T P w) (b : Below w.heap.size w w') : AnsF va N T P w' := by
  refine ⟨h.1.below b, ?_⟩
  rcases h.2 with h | ⟨g, X, K, h1, h2, h3, h4⟩
  · exact .inl h
  · exact .inr ⟨g, X, K, h1, h2.below b, h3, h4⟩
theorem AnsF.onlyP {S : Nat → Prop} {va : Option Addr} {N : Nat} {T : Nat → Lf} {P : Nat → Prop} {w w' : World} (h : AnsF va N T P w) (b : OnlyP S w w') (hS : ∀ k, P k → ¬ S k) : AnsF va N T P w' := by
  rcases h.2 with rfl | ⟨g, X, K, rfl, h2, h3, h4⟩
  · exact ⟨fun _ hi => absurd hi (Nat.not_lt_zero _), .inl rfl⟩
  · have q := h2.onlyP b (fun k hk => hS k (h4 k hk))
    exact ⟨q.row, .inr ⟨g, X, K, rfl, q, h3, h4⟩⟩
theorem w_markAnsF (va : Option Addr) (vc N : Nat) (T : Nat → Lf) (P : Nat → Prop) (k0 : Nat) (w : World) (hn : N ≤ 1048576) (ht : totF T N ≤ 1048576) (hk1 : 1 ≤ k0) (hk2 : k0 ≤ 10000000) (h : AnsF va N T P w) :
    Calls Tryz.prog 41 #[.slice va N vc, .int .i64 (k0 : Int)] w fun e w' => e = .returned (.int .i64 (kmF k0 T N : Int)) ∧ AnsF va N (halfF k0 T N) P w' ∧ OnlyP P w w' := by
  rcases h.2 with rfl | ⟨g, X, K, rfl, h2, h3, h4⟩
  · refine (w_markLeafS0 va vc k0 w).mono ?_
    rintro e w' ⟨rfl, rfl⟩
    exact ⟨by simp [kmF, totF], ⟨fun _ hi => absurd hi (Nat.not_lt_zero _), .inl rfl⟩, OnlyP.refl _ _⟩
  · refine (w_markLeafS g N vc X K T k0 w hn ht hk1 hk2 h3 h2).mono ?_
    rintro e w' ⟨rfl, hR', hO⟩
    exact ⟨rfl, ⟨hR'.row, .inr ⟨g, X, K, rfl, hR', h3, h4⟩⟩, hO.mono (fun k _ hk => h4 k hk)⟩
/-- The blocks of a list of leaves of one's own. -/
def ownP (v : Value) (L : List El15) (k : Nat) : Prop := v.ownBlock = some k ∨ ∃ e, e ∈ L ∧ e.x = k
theorem LsF.ans {base : Nat} {v : Value} {L : List El15} {M : List Lf} {w : World} (h : LsF base v L w) (hM : L.map (·.t) = M) : ∃ va vc, v = .slice va M.length vc ∧ AnsF va M.length (TF M) (ownP v L) w ∧ ∀ k, ownP v L k → base ≤ k ∧ k < w.heap.size := by
  subst hM
  have hl : (L.map (·.t)).length = L.length := by simp
  obtain ⟨a, cap, hv, hrow⟩ := h.row
  have hP : ∀ k, ownP v L k → base ≤ k ∧ k < w.heap.size := by
    intro k hk
    rcases hk with hk | ⟨e, he, rfl⟩
    · exact ownW_lt h.1 hk
    · exact ⟨(h.2.1 e he).1, h.lt he⟩
  refine ⟨a, cap, by rw [hl]; exact hv, ?_, hP⟩
  rw [hl]
  refine ⟨hrow, ?_⟩
  by_cases h0 : L.length = 0
  · exact .inl h0
  · right
    obtain ⟨a', cap', hv', hr, hc⟩ := ownW_row h.1
    rw [hv] at hv'
    simp only [Value.slice.injEq, true_and] at hv'
    obtain ⟨rfl, rfl⟩ := hv'
    rcases hc with ⟨_, _, hh⟩ | ⟨g, rfl, hg, hgl, hcap, hf⟩
    · exact absurd hh h0
    · have hTF : ∀ i (hi : i < L.length), TF (L.map (·.t)) i = (L[i]).t := fun i hi => by
        rw [TF_eq (by simpa using hi)]
        simp
      refine ⟨g, fun i => if hi : i < L.length then (L[i]).x else 0, fun i => if hi : i < L.length then (L[i]).k else 0, rfl, fun i hi => ?_, fun i hi => ?_, fun k hk => ?_⟩
      · obtain ⟨e1, e2⟩ := efs_at hi
        obtain ⟨_, o2, o3⟩ := h.2.1 _ (List.getElem_mem hi)
        unfold OneFA
        simp only [dif_pos hi]
        rw [hTF i hi]
        refine ⟨⟨hgl, fun q v hv => ?_, fun q _ => hf _⟩, o2, o3⟩
        match q, hv with
        | 0, hv =>
          simp at hv
          obtain ⟨b1, f1, hab, _, c1⟩ := hr _ _ e1
          simp only [Option.some.injEq, Addr.mk.injEq, and_true] at hab
          obtain ⟨rfl, rfl⟩ := hab
          rw [← hv]
          simpa using c1
        | 1, hv =>
          simp at hv
          obtain ⟨b1, f1, hab, _, c1⟩ := hr _ _ e2
          simp only [Option.some.injEq, Addr.mk.injEq, and_true] at hab
          obtain ⟨rfl, rfl⟩ := hab
          rw [← hv]
          simpa using c1
        | q + 2, hv => simp at hv
      · simp only [dif_pos hi]
        refine ⟨fun e => h.2.2.1 g (by rw [hv]; rfl) _ (List.getElem_mem hi) e, fun j hj hji => ?_⟩
        simp only [dif_pos hj]
        have hp := List.pairwise_iff_getElem.1 h.2.2.2
        rcases Nat.lt_or_gt_of_ne hji with hlt | hlt
        · exact hp j i hj hi hlt
        · exact fun e => hp i j hi hj hlt e.symm
      · rcases hk with rfl | ⟨i, hi, rfl⟩
        · exact Or.inl (by rw [hv]; rfl)
        · simp only [dif_pos hi]
          exact Or.inr ⟨_, List.getElem_mem hi, rfl⟩
end Go.Proofs.YtnficndeblkjhaaGreatDoor
