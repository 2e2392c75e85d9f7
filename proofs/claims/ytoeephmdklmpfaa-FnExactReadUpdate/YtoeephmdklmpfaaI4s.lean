/- Reading a prefix from the front: what the program's takePrefix answers. -/
import Derived.Test.YtoeephmdklmpfaaI4r
import Derived.Laws.CopyOwn
namespace Go.Proofs.Ytoeephmdklmpfaa
open Go.RowKit

theorem val_zeros (L : List Int) (k : Nat) : val (L ++ List.replicate k 0) = val L * 256 ^ k := by
  induction k with
  | zero => simp
  | succ k ih =>
    rw [List.replicate_succ', ← List.append_assoc, val_snoc, ih, Int.pow_succ]
    rw [Int.add_zero, Int.mul_assoc]
theorem splice4 (M : List Int) (_h : M.length ≤ 4) : splice [Value.int .u8 0, .int .u8 0, .int .u8 0, .int .u8 0] 0 (ncells .u8 M) = ncells .u8 (M ++ List.replicate (4 - M.length) 0) := by
  have e : [Value.int .u8 0, .int .u8 0, .int .u8 0, .int .u8 0] = List.replicate 4 (Value.int .u8 0) := rfl
  unfold splice
  rw [e, nc_len, Nat.zero_add, nc_app, List.take_zero, List.nil_append, List.drop_replicate]
  congr 1
  simp [ncells]
theorem rowN_block {k : IntKind} {w : World} {g : Nat} {Z : List Int} {t : TypeId} (h : w.heap[g]? = some (.cells (ncells k Z).toArray t (0, 0))) : RowN k (some ⟨g, 0, none⟩) Z w := by
  intro i hi
  refine ⟨g, 0, rfl, (Array.getElem?_eq_some_iff.1 h).1, ?_⟩
  rw [Nat.zero_add, cell_of_row w g i _ t (0, 0) h]
  have := nc_at k hi
  simpa using this
theorem Frt.base {w w' : World} {b g base : Nat} {L : List Int} {c : Int} (h : Frt w b g L c) (k : Below base w w') (hb : b < base) (hg : g < base) : Frt w' b g L c := by
  obtain ⟨off, cap, h1, h2, h3, h4⟩ := h
  exact ⟨off, cap, h1.base hb k, h2, h3, h4.base (fun b' off' e => by simp only [Option.some.injEq, Addr.mk.injEq, and_true] at e; omega) k⟩
theorem Only.thenBelow {b g : Nat} {w w1 w2 : World} (h : Only b w w1) (k : Below g w1 w2) (hg : w.heap.size ≤ g) : Only b w w2 :=
  ⟨k.os.trans h.1, k.tape.trans h.2.1, k.output.trans h.2.2.1, Nat.le_trans h.2.2.2.1 k.size, fun i hi hne => (k.block i (by omega)).trans (h.2.2.2.2 i hi hne)⟩
set_option maxRecDepth 100000 in
set_option maxHeartbeats 3200000 in
theorem i_takePrefix_core (b g : Nat) (L : List Int) (c l : Int) (L1 : List Int) (c1 : Int) (M L2 : List Int) (c2 : Int) (w : World) (hg : g < b) (h0 : 0 ≤ l) (h1 : l ≤ 32) (hM : M.length ≤ 4) (hMB : ∀ x ∈ M, 0 ≤ x ∧ x < 256)
    (TN : Hid (∀ w, Frt w b g L c → Calls Try.prog 143 #[.pointer (some ⟨b, 0, none⟩), .int .i64 1] w fun e w' => e = .returned (.int .i64 l) ∧ Frt w' b g L1 c1 ∧ Only b w w'))
    (TK : Hid (∀ w, Frt w b g L1 c1 → Calls Try.prog 158 #[.pointer (some ⟨b, 0, none⟩), .int .i64 (need l)] w fun e w' => (∃ sa cp, e = .returned (.slice sa M.length cp) ∧ RowN .u8 sa M w' ∧ (0 < M.length → ∃ off, sa = some ⟨g, off, none⟩)) ∧ Frt w' b g L2 c2 ∧ Only b w w'))
    (F : Frt w b g L c) :
    Calls Try.prog 144 #[.pointer (some ⟨b, 0, none⟩)] w fun e w' => e = .returned (.agg #[.int .i64 (val (M ++ List.replicate (4 - M.length) 0)), .int .i64 l]) ∧ Frt w' b g L2 c2 ∧ Only b w w' := by
  have hlt := F.lt
  have NE := hide (fun w => i_needed l w h0 h1)
  rw [need_eq h0] at NE
  have NO := hide (fun a cap w R => i_numberOf a (M ++ List.replicate (4 - M.length) 0) cap w (by simp; omega) (by
    intro x hx
    rcases List.mem_append.1 hx with h | h
    · exact hMB x h
    · rw [List.eq_of_mem_replicate h]; omega) R)
  have hZ : (M ++ List.replicate (4 - M.length) 0).length = 4 := by simp; omega
  rw [hZ] at NO
  have hsp := hide (splice4 M hM)
  have hcell := hide (fun w (off : Nat) (R : RowN .u8 (some ⟨g, off, none⟩) M w) => R.cells)
  have hnc := hide (nc_len .u8 M)
  have hone := hide (nc_one .u8 M)
  have hMh := hide hM
  have hM4 : ¬ (l > 32) := by omega
  clear hMB hZ
  generalize hZZ : M ++ List.replicate (4 - M.length) 0 = Z at *
  generalize hcs : ncells .u8 M = cs at *
  generalize hML : M.length = ml at *
  have hMLh := hide hML
  clear hZZ hcs hML
  generalize need l = m at *
  have N2 := Mut.new w #[.int .i64 0, .int .i64 0] 122
  have F := F.below (below_box (Below.refl (w.alloc (.cells #[.int .i64 0, .int .i64 0] 122)).heap.size (w.alloc (.cells #[.int .i64 0, .int .i64 0] 122))))
  have d : Only b w (w.alloc (.cells #[.int .i64 0, .int .i64 0] 122)) := (Only.refl b w).alloc _
  go_enter Try.func144, Try.ntmps144
  go_wp2_with fail
  generalize w.alloc (.cells #[.int .i64 0, .int .i64 0] 122) = w1 at *
  refine (TN.out _ F).mono ?_
  rintro e w2 ⟨rfl, F2, o2⟩
  have N2 := N2.only o2 (by omega)
  have d2 := d.trans o2
  clear o2 d F TN
  have hl2 := F2.lt
  have hn2 := N2.1
  have F3 := F2.below (below_box (Below.refl (w2.alloc (.cells #[.int .u8 0, .int .u8 0, .int .u8 0, .int .u8 0] 160)).heap.size (w2.alloc (.cells #[.int .u8 0, .int .u8 0, .int .u8 0, .int .u8 0] 160))))
  have hB4 : (w2.alloc (.cells #[.int .u8 0, .int .u8 0, .int .u8 0, .int .u8 0] 160)).heap[w2.heap.size]? = some (.cells [Value.int .u8 0, .int .u8 0, .int .u8 0, .int .u8 0].toArray 160 (0, 0)) := heap_alloc_new w2 _
  have hsz4 : w2.heap.size < (w2.alloc (.cells #[.int .u8 0, .int .u8 0, .int .u8 0, .int .u8 0] 160)).heap.size := by simp
  have N3 := N2.alloc (.cells #[.int .u8 0, .int .u8 0, .int .u8 0, .int .u8 0] 160)
  have d3 : Only b w (w2.alloc (.cells #[.int .u8 0, .int .u8 0, .int .u8 0, .int .u8 0] 160)) := d2.alloc _
  clear d2 N2 F2
  go_wp2_with fail
  generalize w2.alloc (.cells #[.int .u8 0, .int .u8 0, .int .u8 0, .int .u8 0] 160) = w3 at *
  generalize w2.heap.size = g4 at *
  have hinfo : (Try.prog.info? 5).map (·.size) = some 1 := by kernel_rfl
  go_region_held3 (fun _ => True) (first | go_keep | trivial)
    ((first
      | (go_at_call 149; refine (NE.out _).mono ?_; rintro e wA ⟨rfl, rfl⟩)
      | (go_at_call 158; refine (TK.out _ (by first | exact F3 | exact F3.below (Below.refl _ _).drew)).mono ?_; rintro e wT ⟨⟨sa, cp, rfl, RM, hoff⟩, FT, oT⟩; have oT' : Only b w3 wT := (by first | exact oT | exact (Only.of_below (Below.refl _ _).drew).trans oT))
      | (refine step_copy_splice (by rfl) _ _ _ _ (by rfl) 5 Try.underlying72 hinfo (some ⟨g4, 0, none⟩) sa 4 4 ml cp (by rfl) (by rfl) g4 0 [Value.int .u8 0, .int .u8 0, .int .u8 0, .int .u8 0] 160 (by first | exact (oT'.2.2.2.2 g4 hsz4 (by omega)).trans hB4) cs (by rw [hnc.out]; exact (Nat.min_eq_left (hMh.out)).symm) (by
            intro hpos
            obtain ⟨off, rfl⟩ := hoff (by rw [hnc.out] at hpos; exact hpos)
            exact ⟨rfl, _, rfl, by first | exact hcell.out _ off RM | exact hcell.out _ off (RM.below (Below.refl _ _).drew)⟩) (by rw [hnc.out]; simpa using hMh.out) hone.out g4 wT (by first | exact Below.refl _ _ | exact (Below.refl _ _).drew) (Nat.le_refl _) ?_; intro wC hgC hbC)))
  all_goals
    have FC := FT.base hbC (by omega) (by omega)
    have N3 := (N3.only oT' (by omega)).base (by omega) hbC
    have dC : Only b w wC := (d3.trans oT').thenBelow hbC (by omega)
    have hgC := hgC.out
    rw [hsp.out] at hgC
    have RZ := rowN_block hgC
    clear hgC hbC
    go_wp2_with fail
    refine (NO.out _ _ _ RZ).mono ?_
    rintro e wD ⟨rfl, rfl⟩
    have x0 := N3.2.1 0 _ rfl
    have x1 := N3.2.1 1 _ rfl
    have g0 := N3.2.2 0 (by simp)
    have g1 := N3.2.2 1 (by simp)
    have hO : ∀ u v : Value, Only w.heap.size wD ((wD.setCell ⟨w.heap.size, 0, none⟩ u).setCell ⟨w.heap.size, 1, none⟩ v) := fun u v => ((Only.refl _ _).setCell 0 u).setCell 1 v
    have FF := fun u v => FC.only (hO u v) (by omega) (by omega)
    have dF := fun u v : Value => (dC.setNew (b := w.heap.size) (Nat.le_refl _) 0 u).setNew (b := w.heap.size) (Nat.le_refl _) 1 v
    clear N3 FC RZ hO dC
    go_wp2_with fail
    exact bodyPost_ret (v := .agg #[.int .i64 (val Z), .int .i64 l]) (by simp [results, Try.results144, go_sem, x0, x1]) rfl ⟨rfl, FF _ _, dF _ _⟩
set_option maxRecDepth 100000 in
set_option maxHeartbeats 1600000 in
theorem i_takePrefix_big (b g : Nat) (l : Int) (D : List Int) (w : World) (hg : g < b) (hl : l > 32) (hB : ∀ x ∈ l :: D, 0 ≤ x ∧ x < 256) (F : Frt w b g (l :: D) 0) :
    Calls Try.prog 144 #[.pointer (some ⟨b, 0, none⟩)] w fun e w' => e = .returned (.agg #[.int .i64 0, .int .i64 0]) ∧ Frt w' b g D 3 ∧ Only b w w' := by
  have hlt := F.lt
  have TN := hide (fun w F => i_takeNumber_yes b g 1 (l :: D) w (by omega) (by omega) (by simp) hB F)
  have e1 : val ((l :: D).take 1) = l := by simp [val]
  rw [e1] at TN
  clear e1 hB
  have N2 := Mut.new w #[.int .i64 0, .int .i64 0] 122
  have F := F.below (below_box (Below.refl (w.alloc (.cells #[.int .i64 0, .int .i64 0] 122)).heap.size (w.alloc (.cells #[.int .i64 0, .int .i64 0] 122))))
  have d : Only b w (w.alloc (.cells #[.int .i64 0, .int .i64 0] 122)) := (Only.refl b w).alloc _
  go_enter Try.func144, Try.ntmps144
  go_wp2_with fail
  generalize w.alloc (.cells #[.int .i64 0, .int .i64 0] 122) = w1 at *
  refine (TN.out _ F).mono ?_
  rintro e w2 ⟨rfl, F2, o2⟩
  have N2 := N2.only o2 (by omega)
  have d2 := d.trans o2
  clear o2 d F TN
  obtain ⟨off, cap, M2, h1, h2, R2⟩ := F2
  have q1 := M2.2.1 1 _ rfl
  have z1 := M2.2.2 1 (by simp)
  have FS : Frt (w2.setCell ⟨b, 1, none⟩ (.int .i64 3)) b g D 3 := ⟨off, cap, M2.set 1 (.int .i64 3), h1, h2, R2.only ((Only.refl b w2).setCell 1 _) (by omega)⟩
  have NS := N2.other (c := b) (by omega) 1 (.int .i64 3)
  have dS := d2.setCell 1 (.int .i64 3)
  have x0 := NS.2.1 0 _ rfl
  have x1 := NS.2.1 1 _ rfl
  have g0 := NS.2.2 0 (by simp)
  have g1 := NS.2.2 1 (by simp)
  have y0 := N2.2.1 0 _ rfl
  have y1 := N2.2.1 1 _ rfl
  have j0 := N2.2.2 0 (by simp)
  have j1 := N2.2.2 1 (by simp)
  have hO : ∀ u v : Value, Only w.heap.size (w2.setCell ⟨b, 1, none⟩ (.int .i64 3)) (((w2.setCell ⟨b, 1, none⟩ (.int .i64 3)).setCell ⟨w.heap.size, 0, none⟩ u).setCell ⟨w.heap.size, 1, none⟩ v) := fun u v => ((Only.refl _ _).setCell 0 u).setCell 1 v
  have FF := fun u v => FS.only (hO u v) (by omega) (by omega)
  have dF := fun u v : Value => (dS.setNew (b := w.heap.size) (Nat.le_refl _) 0 u).setNew (b := w.heap.size) (Nat.le_refl _) 1 v
  clear FS hO dS NS N2 M2 R2 d2
  go_wp2_with fail
  exact bodyPost_ret (v := .agg #[.int .i64 0, .int .i64 0]) (by simp [results, Try.results144, go_sem, x0, x1]) rfl ⟨rfl, FF _ _, dF _ _⟩
theorem shl_need (n : Int) {m : Nat} (h : m ≤ 4) : n * 256 ^ (4 - m) = n * 2 ^ (32 - 8 * m) := by
  congr 1
  rw [show (256 : Int) = 2 ^ 8 from rfl, ← Int.pow_mul]
  congr 1
  omega
theorem i_takePrefix_yes (b g : Nat) (l : Int) (D : List Int) (w : World) (hg : g < b) (hl : l ≤ 32) (hD : need l ≤ D.length) (hB : ∀ x ∈ l :: D, 0 ≤ x ∧ x < 256) (F : Frt w b g (l :: D) 0) :
    Calls Try.prog 144 #[.pointer (some ⟨b, 0, none⟩)] w fun e w' => e = .returned (.agg #[.int .i64 (val (D.take (need l)) * 2 ^ (32 - 8 * need l)), .int .i64 l]) ∧ Frt w' b g (D.drop (need l)) 0 ∧ Only b w w' := by
  have hl0 : 0 ≤ l := (hB l (by simp)).1
  have hm := need_le hl0 hl
  have hlen : (D.take (need l)).length = need l := by rw [List.length_take]; omega
  have k := i_takePrefix_core b g (l :: D) 0 l D 0 (D.take (need l)) (D.drop (need l)) 0 w hg hl0 hl (by rw [hlen]; exact hm) (fun x hx => hB x (List.mem_cons_of_mem _ (List.mem_of_mem_take hx)))
    (fun w F => by
      have := i_takeNumber_yes b g 1 (l :: D) w (by omega) (by omega) (by simp) hB F
      have e1 : val ((l :: D).take 1) = l := by simp [val]
      rw [e1] at this
      exact this)
    (fun w F => by
      refine (i_take_yes b g (need l) D w (by omega) hD F).mono ?_
      rintro e w' ⟨⟨off, rfl, R⟩, F', o⟩
      exact ⟨⟨_, _, by rw [hlen], R, fun _ => ⟨off, rfl⟩⟩, F', o⟩) F
  rw [val_zeros, hlen, shl_need _ hm] at k
  exact k
theorem i_takePrefix_short (b g : Nat) (l : Int) (D : List Int) (w : World) (hg : g < b) (hl : l ≤ 32) (hD : D.length < need l) (hB : ∀ x ∈ l :: D, 0 ≤ x ∧ x < 256) (F : Frt w b g (l :: D) 0) :
    Calls Try.prog 144 #[.pointer (some ⟨b, 0, none⟩)] w fun e w' => e = .returned (.agg #[.int .i64 0, .int .i64 l]) ∧ Frt w' b g D 1 ∧ Only b w w' := by
  have hl0 : 0 ≤ l := (hB l (by simp)).1
  exact i_takePrefix_core b g (l :: D) 0 l D 0 [] D 1 w hg hl0 hl (by simp) (by simp)
    (fun w F => by
      have := i_takeNumber_yes b g 1 (l :: D) w (by omega) (by omega) (by simp) hB F
      have e1 : val ((l :: D).take 1) = l := by simp [val]
      rw [e1] at this
      exact this)
    (fun w F => by
      refine (i_take_short b g (need l) D w (by omega) hD F).mono ?_
      rintro e w' ⟨rfl, F', o⟩
      exact ⟨⟨_, _, rfl, RowN.nil _ _ _, fun h => absurd h (by simp)⟩, F', o⟩) F
theorem i_takePrefix_bad (b g : Nat) (L : List Int) (c : Int) (w : World) (hg : g < b) (hc : c ≠ 0) (F : Frt w b g L c) :
    Calls Try.prog 144 #[.pointer (some ⟨b, 0, none⟩)] w fun e w' => e = .returned (.agg #[.int .i64 0, .int .i64 0]) ∧ Frt w' b g L c ∧ Only b w w' := by
  exact i_takePrefix_core b g L c 0 L c [] L c w hg (by omega) (by omega) (by simp) (by simp)
    (fun w F => by
      refine (i_takeNumber_bad b g 1 L c w hc F).mono ?_
      rintro e w' ⟨rfl, rfl⟩
      exact ⟨rfl, F, Only.refl _ _⟩)
    (fun w F => by
      refine (i_take_bad b g _ L c w hc F).mono ?_
      rintro e w' ⟨rfl, rfl⟩
      exact ⟨⟨_, _, rfl, RowN.nil _ _ _, fun h => absurd h (by simp)⟩, F, Only.refl _ _⟩) F
theorem i_takePrefix_empty (b g : Nat) (w : World) (hg : g < b) (F : Frt w b g [] 0) :
    Calls Try.prog 144 #[.pointer (some ⟨b, 0, none⟩)] w fun e w' => e = .returned (.agg #[.int .i64 0, .int .i64 0]) ∧ Frt w' b g [] 1 ∧ Only b w w' := by
  exact i_takePrefix_core b g [] 0 0 [] 1 [] [] 1 w hg (by omega) (by omega) (by simp) (by simp)
    (fun w F => by
      refine (i_takeNumber_short b g 1 [] w (by omega) (by simp) F).mono ?_
      rintro e w' ⟨rfl, F', o⟩
      exact ⟨rfl, F', o⟩)
    (fun w F => by
      refine (i_take_bad b g _ [] 1 w (by decide) F).mono ?_
      rintro e w' ⟨rfl, rfl⟩
      exact ⟨⟨_, _, rfl, RowN.nil _ _ _, fun h => absurd h (by simp)⟩, F, Only.refl _ _⟩) F
end Go.Proofs.Ytoeephmdklmpfaa
