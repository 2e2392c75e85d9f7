/- What labels do, as closures: each holds a box with its row; a list of them. -/
import Derived.Test.YtelehmkmdbhcfaaI9a
import Derived.Test.YtelehmkmdbhcfaaMemW
namespace Go.Proofs.Ytelehmkmdbhcfaa
open Go.RowKit

/-- Box p holds a row. -/
def LabF (p : Nat) (t : Lc) (w : World) : Prop := p < w.heap.size ∧ ∃ (a0 : Option Addr) (c0 : Nat), w.cell? ⟨p, 0, none⟩ = some (.slice a0 t.n c0) ∧ RowInt a0 t.n t.f w
theorem LabF.below {p : Nat} {t : Lc} {w w' : World} (h : LabF p t w) (k : Below w.heap.size w w') : LabF p t w' := by
  obtain ⟨h1, a0, c0, h2, h3⟩ := h
  exact ⟨Nat.lt_of_lt_of_le h1 k.size, a0, c0, ((bcell k).1 _ _ h1).trans h2, h3.below k⟩
/-- A label's closure. -/
def labV (p : Nat) : Value := .func (.func 56) #[] #[.pointer (some ⟨p, 0, none⟩)]
theorem labV_one (p : Nat) : (labV p).oneCell' = true := rfl
theorem sizeLab : (Try.prog.info? 63).map (fun i => (i.zero, i.size, i.bytes)) = some (some .nilFunc, 1, 8) := by kernel_rfl
theorem aggLab : AggT Try.prog 75 63 .nilFunc 1 8 := ⟨Try.underlying75, sizeLab, rfl, by decide⟩
set_option maxRecDepth 100000 in
set_option maxHeartbeats 400000 in
theorem i_label (p : Nat) (t : Lc) (x : Nat) (w : World) (hx : x < t.n) (_hn : t.n ≤ 12) (h : LabF p t w) :
    Calls Try.prog 56 #[.int .i64 x, .pointer (some ⟨p, 0, none⟩)] w fun e w' => e = .returned (.int .i64 (t.f x)) ∧ w' = w := by
  obtain ⟨h1, a0, c0, h2, h3⟩ := h
  obtain ⟨b, off, rfl, hb, h4⟩ := h3 x hx
  have hx' : (x : Int) < (t.n : Int) := by omega
  go_enter Try.func56, Try.ntmps56
  go_wp2_with fail
  go_ret
  exact ⟨rfl, rfl⟩
theorem i_labelZ (p : Nat) (t : Lc) (x : Int) (w : World) (h0 : 0 ≤ x) (hx : x < (t.n : Int)) (hn : t.n ≤ 12) (h : LabF p t w) :
    Calls Try.prog 56 #[.int .i64 x, .pointer (some ⟨p, 0, none⟩)] w fun e w' => e = .returned (.int .i64 (t.f x.toNat)) ∧ w' = w := by
  obtain ⟨n, rfl⟩ := Int.eq_ofNat_of_zero_le h0
  exact i_label p t n w (by omega) hn h
set_option maxRecDepth 100000 in
set_option maxHeartbeats 400000 in
theorem i_labelBy (a0 : Option Addr) (t : Lc) (c0 : Nat) (w : World) :
    Calls Try.prog 51 #[.slice a0 t.n c0] w fun e w' => e = .returned (labV w.heap.size) ∧ (w.heap.size < w'.heap.size ∧ w'.cell? ⟨w.heap.size, 0, none⟩ = some (.slice a0 t.n c0)) ∧ Below w.heap.size w w' := by
  have hmf : ∀ (fn : Fn) (first cap : Array Value) (w : World), (Instr.makeFunc fn first cap).run Try.prog w = .ok (.func fn first cap) w := fun _ _ _ _ => rfl
  have d0 : Below w.heap.size w (w.alloc (.cells #[.slice a0 t.n c0] 28)) := below_box (Below.refl _ _)
  go_enter Try.func51, Try.ntmps51
  go_wp2_with fail
  go_ret
  exact ⟨rfl, ⟨by simp, by simp [go_sem]⟩, d0⟩
/-- What add leaves: the box has the longer list; nothing else that was there has turned but the list's own block. -/
def AddW (e : TypeId) (m bL base n : Nat) (v : Value) (xs : List Value) (w w' : World) : Prop := ∃ v', Mut w' bL [v'] ∧ OwnW e m base v' n xs w' ∧ OnlyP (fun k => k = bL ∨ v.ownBlock = some k) w w' ∧ (v'.ownBlock = v.ownBlock ∨ ∃ k, w.heap.size ≤ k ∧ v'.ownBlock = some k)
set_option maxRecDepth 100000 in
set_option maxHeartbeats 800000 in
theorem i_addLab (bL base n : Nat) (v : Value) (xs : List Value) (p : Nat) (w : World) (hn : n ≤ 1000000) (hbL : bL < base) (hbw : base ≤ w.heap.size) (hM : Mut w bL [v]) (hown : OwnW 63 1 base v n xs w) :
    Calls Try.prog 50 #[.pointer (some ⟨bL, 0, none⟩), labV p] w fun e w' => e = .returned (.tuple #[]) ∧ AddW 63 1 bL base (n + 1) v (xs ++ [labV p]) w w' := by
  obtain ⟨va, vc, rfl, _, _⟩ := ownW_row hown
  have c0 := hM.2.1 0 _ rfl
  have dA : Below w.heap.size w (w.alloc (.cells #[labV p] 63)) := below_box (Below.refl _ _)
  have MA := Mut.new w #[labV p] 63
  have RA := RowW.mut MA
  have hownA := ownW_below hown dA
  have hbsA : base ≤ (w.alloc (.cells #[labV p] 63)).heap.size := Nat.le_trans hbw dA.size
  have hMA := hM.below dA
  have hlen : Hid (n + 1 ≤ 8589934593) := by show _ ≤ _; omega
  have h1c : Hid (∀ u ∈ [labV p], u.oneCell' = true) := fun u hu => by
    rw [List.mem_singleton.1 hu]; rfl
  simp only [labV] at *
  go_enter Try.func50, Try.ntmps50
  go_wp2_with (first | (at_builtin; refine wpList_appW aggLab rfl _ _ rfl base _ n xs rfl hownA w.heap.size 0 1 1 _ rfl rfl RA h1c.out hlen.out (by decide) hbsA ?_; intro v' w' hw1 hw2 hw3 hw4; obtain ⟨va', vc', rfl, _, _⟩ := ownW_row hw1; have hM' := hMA.base hbL hw2; have c1 := hM'.2.1 0 _ rfl; have f1 := hM'.2.2 0 (by simp)))
  go_end0
  refine ⟨rfl, _, hM'.set 0 (.slice va' (n + 1) vc'), ownW_only hw1 ((Only.refl bL w').setCell 0 _) (fun e => ?_), ?_, ?_⟩
  · have := (ownW_lt hw1 e).1
    omega
  · refine OnlyP.trans (b := w') ?_ (OnlyP.of_only ((Only.refl bL w').setCell 0 _) (.inl rfl))
    exact (OnlyP.of_below dA).trans (OnlyP.of_grown hw3 (fun k hk => .inr hk))
  · rcases hw4 with e | e
    · exact .inl e
    · exact .inr ⟨_, dA.size, e⟩
/-- A list of labels at va, each with its box. -/
def LabR (va : Option Addr) (m : Nat) (P : Nat → Nat) (T : Nat → Lc) (w : World) : Prop := ∀ k, k < m → ∃ b off, va = some ⟨b, off, none⟩ ∧ b < w.heap.size ∧ w.cell? ⟨b, off + k, none⟩ = some (labV (P k)) ∧ LabF (P k) (T k) w
theorem LabR.below {va : Option Addr} {m : Nat} {P : Nat → Nat} {T : Nat → Lc} {w w' : World} (h : LabR va m P T w) (k : Below w.heap.size w w') : LabR va m P T w' := by
  intro i hi
  obtain ⟨b, off, h1, h2, h3, h4⟩ := h i hi
  exact ⟨b, off, h1, Nat.lt_of_lt_of_le h2 k.size, ((bcell k).1 _ _ h2).trans h3, h4.below k⟩
theorem RowLL.pick {a : Option Addr} {m : Nat} {T : Nat → Lc} {w : World} (h : RowLL a m T w) : ∃ (A : Nat → Option Addr) (C : Nat → Nat), ∀ i, i < m → ∃ b off, a = some ⟨b, off, none⟩ ∧ b < w.heap.size ∧ w.cell? ⟨b, off + i, none⟩ = some (.slice (A i) (T i).n (C i)) ∧ RowInt (A i) (T i).n (T i).f w := by
  have h' : ∀ i, ∃ q : Option Addr × Nat, i < m → ∃ b off, a = some ⟨b, off, none⟩ ∧ b < w.heap.size ∧ w.cell? ⟨b, off + i, none⟩ = some (.slice q.1 (T i).n q.2) ∧ RowInt q.1 (T i).n (T i).f w := by
    intro i
    by_cases hi : i < m
    · obtain ⟨b, off, a0, c0, h1, h2, h3, h4⟩ := h i hi
      exact ⟨(a0, c0), fun _ => ⟨b, off, h1, h2, h3, h4⟩⟩
    · exact ⟨(none, 0), fun k => absurd k hi⟩
  exact ⟨fun i => (Classical.choose (h' i)).1, fun i => (Classical.choose (h' i)).2, fun i hi => Classical.choose_spec (h' i) hi⟩
/-- The boxes of the first k labels. -/
def Bxs (A : Nat → Option Addr) (C : Nat → Nat) (T : Nat → Lc) (P : Nat → Nat) (k bL : Nat) (v : Value) (w : World) : Prop := ∀ i, i < k → P i < w.heap.size ∧ bL < P i ∧ v.ownBlock ≠ some (P i) ∧ w.cell? ⟨P i, 0, none⟩ = some (.slice (A i) (T i).n (C i))
theorem range_map_succ {α : Type} (f : Nat → α) (k : Nat) : (List.range (k + 1)).map f = (List.range k).map f ++ [f k] := by simp [List.range_succ]
theorem range_map_upd (P : Nat → Nat) (k p : Nat) : (List.range (k + 1)).map (fun i => labV (if i = k then p else P i)) = (List.range k).map (fun i => labV (P i)) ++ [labV p] := by
  rw [range_map_succ]
  simp only [if_true]
  congr 1
  apply List.map_congr_left
  intro i hi
  have := List.mem_range.1 hi
  rw [if_neg (by omega)]
/-- What labelsOf hands back; each box holds what stood in the list. -/
def LabsP (a : Option Addr) (m : Nat) (T : Nat → Lc) (w : World) (e : Ending) (w' : World) : Prop := ∃ va vc P, e = .returned (.agg #[.slice va m vc]) ∧ LabR va m P T w' ∧ Below w.heap.size w w' ∧ ∀ k, k < m → ∀ b off v, a = some ⟨b, off, none⟩ → w.cell? ⟨b, off + k, none⟩ = some v → w'.cell? ⟨P k, 0, none⟩ = some v
set_option maxRecDepth 100000 in
set_option maxHeartbeats 1600000 in
theorem i_labelsOfX (g : Int) (a : Option Addr) (m c : Nat) (T : Nat → Lc) (w : World) (hm : m ≤ 4) (hR : RowLL a m T w) :
    Calls Try.prog 40 #[.agg #[.int .i64 g, .slice a m c]] w (LabsP a m T w) := by
  obtain ⟨A, C, hA⟩ := hR.pick
  have MX := ((Mut.new w #[.int .i64 g, .slice a m c] 31).alloc (.cells #[.slice none 0 0] 77)).alloc (.cells #[.slice none 0 0] 77)
  have MY := (Mut.new (w.alloc (.cells #[.int .i64 g, .slice a m c] 31)) #[.slice none 0 0] 77).alloc (.cells #[.slice none 0 0] 77)
  have MZ := Mut.new ((w.alloc (.cells #[.int .i64 g, .slice a m c] 31)).alloc (.cells #[.slice none 0 0] 77)) #[.slice none 0 0] 77
  have dX : Below w.heap.size w (((w.alloc (.cells #[.int .i64 g, .slice a m c] 31)).alloc (.cells #[.slice none 0 0] 77)).alloc (.cells #[.slice none 0 0] 77)) := below_box3 (Below.refl _ _)
  simp only [World.size_alloc] at MX MY MZ
  clear hR
  have hmm : (m : Int) ≤ 4 := by omega
  go_enter Try.func40, Try.ntmps40
  go_wp2_with fail
  generalize ((w.alloc (.cells #[.int .i64 g, .slice a m c] 31)).alloc (.cells #[.slice none 0 0] 77)).alloc (.cells #[.slice none 0 0] 77) = wx at *
  generalize hb0 : w.heap.size = b0 at *
  clear MX
  go_loopw [9] (fun y wr => ∃ (k : Nat) (P : Nat → Nat) (v : Value), y = .int .i64 k ∧ k ≤ m ∧ Mut wr (b0 + 1 + 1) [v] ∧ Mut wr (b0 + 1) [.slice none 0 0] ∧ OwnW 63 1 (b0 + 3) v k ((List.range k).map (fun i => labV (P i))) wr ∧ Hid (Bxs A C T P k (b0 + 2) v wr) ∧ Below b0 w wr ∧ b0 + 3 ≤ wr.heap.size) (fun y _ => m - (intOf y).toNat)
  case atStart => exact ⟨0, fun _ => 0, _, rfl, Nat.zero_le _, MZ, MY, ownW_nil _ _ _ _, fun i hi => absurd hi (by omega), dX, MZ.1⟩
  case round =>
    clear MY MZ dX
    obtain ⟨k, P, v, rfl, hk, MZ, MY, own, hB, dX, hsz⟩ := hrel
    by_cases hlt : k < m
    · obtain ⟨b, off, ha, hbw, u0, ht⟩ := hA k hlt
      subst ha
      have u0 := (dX.cell (p := ⟨b, off + k, none⟩) (by omega)).trans u0
      have hlt' : (k : Int) < (m : Int) := by omega
      have LB := hide (fun w => i_labelBy (A k) (T k) (C k) w)
      have AD := hide (fun p w h1 h2 h3 => i_addLab (b0 + 1 + 1) (b0 + 3) k v ((List.range k).map (fun i => labV (P i))) p w (by omega) (by omega) h1 h2 h3)
      have hA9 := hide hA
      clear hA ht
      go_wp2_with fail
      refine (LB.out _).mono ?_
      rintro e w1 ⟨rfl, hL, b1⟩
      have M1 := MZ.below b1
      have own1 := ownW_below own b1
      go_wp2_with fail
      refine (AD.out _ _ (Nat.le_trans hsz b1.size) M1 own1).mono ?_
      rintro e w2 ⟨rfl, v2, M2, own2, on2, hv2⟩
      have hMY := (MY.below b1).onlyP on2 (by
        rintro (e | e)
        · omega
        · have := (ownW_lt own1 e).1; omega)
      have d1 := dX.trans (b1.mono (by omega))
      have d2 : Below b0 w w2 := d1.trans (on2.below (base := b0) (fun k hk h => by
        rcases h with e | e
        · omega
        · have := (ownW_lt own1 e).1; omega) (by have := b1.size; omega))
      have hsz2 : b0 + 3 ≤ w2.heap.size := by have := b1.size; have := on2.2.2.2.1; omega
      have hB2 : Hid (Bxs A C T (fun i => if i = k then wr.heap.size else P i) (k + 1) (b0 + 2) v2 w2) := by
        intro i hi
        have hs2 := on2.2.2.2.1
        have hs1 := b1.size
        have hL1 := hL.1
        by_cases e : i = k
        · subst e
          simp only [if_true]
          have hne : ¬ (wr.heap.size = b0 + 1 + 1 ∨ v.ownBlock = some wr.heap.size) := by
            rintro (q | q)
            · omega
            · have := (ownW_lt own q).2; omega
          refine ⟨by omega, by omega, ?_, ?_⟩
          · rcases hv2 with q | ⟨z, hz, q⟩
            · rw [q]; exact fun h => hne (.inr h)
            · rw [q]; intro h; have := Option.some.inj h; omega
          · rw [on2.cell hL1 hne]
            exact hL.2
        · simp only [if_neg e]
          obtain ⟨g1, g2, g3, g4⟩ := hB.out i (by omega)
          have hne : ¬ (P i = b0 + 1 + 1 ∨ v.ownBlock = some (P i)) := by
            rintro (q | q)
            · omega
            · exact g3 q
          refine ⟨by omega, g2, ?_, ?_⟩
          · rcases hv2 with q | ⟨z, hz, q⟩
            · rw [q]; exact g3
            · rw [q]; intro h; have := Option.some.inj h; omega
          · rw [on2.cell (by omega) hne, (bcell b1).1 _ _ g1]
            exact g4
      have own2' : OwnW 63 1 (b0 + 3) v2 (k + 1) ((List.range (k + 1)).map (fun i => labV (if i = k then wr.heap.size else P i))) w2 := by
        rw [range_map_upd]; exact own2
      clear own2 own1 own b1 d1 on2 M1 MZ MY
      go_wp2_with fail
      exact ⟨⟨k + 1, _, v2, by go_num, by omega, M2, hMY, own2', hB2, d2, hsz2⟩, by simp [intOf]; omega⟩
    · have hlt' : ¬ (k : Int) < (m : Int) := by omega
      obtain rfl : k = m := by omega
      obtain ⟨va, vc, rfl, RA, hva⟩ := ownW_row own
      have c0 := MZ.2.1 0 _ rfl
      have c1 := MY.2.1 0 _ rfl
      have f1 := MY.2.2 0 (by simp)
      go_wp2_with fail
      have hfin : Below b0 w (wr.setCell ⟨b0 + 1, 0, none⟩ (.slice va k vc)) := dX.setCell (by simp) _
      have hon : Only (b0 + 1) wr (wr.setCell ⟨b0 + 1, 0, none⟩ (.slice va k vc)) := (Only.refl _ _).setCell 0 _
      have hLR : LabR va k P T (wr.setCell ⟨b0 + 1, 0, none⟩ (.slice va k vc)) := by
        intro i hi
        obtain ⟨b, off, rfl, hbw, hc⟩ := RA i (labV (P i)) (by simp [hi])
        obtain ⟨g1, g2, g3, g4⟩ := hB.out i hi
        have hbb : b ≠ b0 + 1 := by
          have := (ownW_lt own (k := b) rfl).1
          omega
        refine ⟨b, off, rfl, by simpa using hbw, (hon.cell hbw hbb).trans hc, by simpa using g1, A i, C i, (hon.cell g1 (by omega)).trans g4, ?_⟩
        obtain ⟨_, _, _, _, _, ht⟩ := hA i hi
        exact ht.below (by rw [hb0]; exact hfin)
      have hLE : ∀ i, i < k → ∀ b off v, a = some ⟨b, off, none⟩ → w.cell? ⟨b, off + i, none⟩ = some v → (wr.setCell ⟨b0 + 1, 0, none⟩ (.slice va k vc)).cell? ⟨P i, 0, none⟩ = some v := by
        intro i hi b off v ha hv
        obtain ⟨b', off', ha', _, hc', _⟩ := hA i hi
        rw [ha] at ha'
        simp only [Option.some.injEq, Addr.mk.injEq, and_true] at ha'
        obtain ⟨rfl, rfl⟩ := ha'
        rw [hc'] at hv
        obtain ⟨g1, g2, g3, g4⟩ := hB.out i hi
        rw [← hv]
        exact (hon.cell g1 (by omega)).trans g4
      exact bodyPost_ret (v := .agg #[.slice va k vc]) (by simp [results, Try.results40, go_sem, *]) rfl ⟨va, vc, P, rfl, hLR, by rw [hb0]; exact hfin, hLE⟩
theorem i_labelsOf (g : Int) (a : Option Addr) (m c : Nat) (T : Nat → Lc) (w : World) (hm : m ≤ 4) (hR : RowLL a m T w) :
    Calls Try.prog 40 #[.agg #[.int .i64 g, .slice a m c]] w fun e w' => ∃ va vc P, e = .returned (.agg #[.slice va m vc]) ∧ LabR va m P T w' ∧ Below w.heap.size w w' :=
  (i_labelsOfX g a m c T w hm hR).mono fun _ _ ⟨va, vc, P, h1, h2, h3, _⟩ => ⟨va, vc, P, h1, h2, h3⟩
end Go.Proofs.Ytelehmkmdbhcfaa
