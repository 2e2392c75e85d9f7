/- What the program's spansIn and MatchPath answer. -/
import Derived.Test.YtocgghhlfmgndaaGreatI6mb
import Derived.Test.YtocgghhlfmgndaaGreatI6b
import Derived.Test.YtocgghhlfmgndaaGreatS6mb
import Derived.Test.YtocgghhlfmgndaaGreatI4
namespace Go.Proofs.YtocgghhlfmgndaaGreat
open Go.RowKit

/-- The spans tell the rows of a pattern. -/
def SpF (P : List Int) (t : Re) (F : Nat → Nat → Bool) : Prop := ∀ i j, i < 11 → j < 11 → (F i j = true ↔ Mt P t i j)
theorem spF_non (P : List Int) : SpF P .non noF := fun i j _ _ => ⟨fun h => absurd h (by simp [noF]), fun h => h.elim⟩
theorem spF_emp (P : List Int) : SpF P .emp (diaF 11) := fun i j hi _ => by
  show diaF 11 i j = true ↔ i = j
  simp only [diaF, decide_eq_true_eq]
  exact ⟨fun h => h.1, fun h => ⟨h, hi⟩⟩
theorem spF_one (P : List Int) (n : Int) : SpF P (.one n) (numF P false n P.length) := fun i j _ _ => by
  show numF P false n P.length i j = true ↔ j = i + 1 ∧ i < P.length ∧ P.getD i 0 = n
  simp only [numF, Bool.and_eq_true, decide_eq_true_eq, Bool.false_or, beq_iff_eq]
  exact ⟨fun h => ⟨h.1.1, h.1.2, h.2⟩, fun h => ⟨⟨h.1, h.2.1⟩, h.2.2⟩⟩
theorem spF_any (P : List Int) (n : Int) : SpF P .any (numF P true n P.length) := fun i j _ _ => by
  show numF P true n P.length i j = true ↔ j = i + 1 ∧ i < P.length
  simp only [numF, Bool.and_eq_true, decide_eq_true_eq, Bool.true_or, and_true]
theorem spF_thn {P : List Int} {a b : Re} {F G : Nat → Nat → Bool} (ha : SpF P a F) (hb : SpF P b G) : SpF P (.thn a b) (fun x y => thB F G x y (y + 1)) := fun i j hi hj => by
  show thB F G i j (j + 1) = true ↔ ∃ m, Mt P a i m ∧ Mt P b m j
  rw [thB_iff]
  constructor
  · rintro ⟨q, hq, hiq, h1, h2⟩
    exact ⟨q, (ha i q hi (by omega)).1 h1, (hb q j (by omega) hj).1 h2⟩
  · rintro ⟨m, h1, h2⟩
    have l1 := mt_le a i m h1
    have l2 := mt_le b m j h2
    exact ⟨m, by omega, l1, (ha i m hi (by omega)).2 h1, (hb m j (by omega) hj).2 h2⟩
theorem spF_alt {P : List Int} {a b : Re} {F G : Nat → Nat → Bool} (ha : SpF P a F) (hb : SpF P b G) : SpF P (.alt a b) (fun i j => F i j || G i j) := fun i j hi hj => by
  show (F i j || G i j) = true ↔ Mt P a i j ∨ Mt P b i j
  rw [Bool.or_eq_true, ha i j hi hj, hb i j hi hj]
theorem spF_str {P : List Int} {a : Re} {F G : Nat → Nat → Bool} (ha : SpF P a F) (hs : StF F G) : SpF P (.str a) G := fun i j hi hj => by
  show G i j = true ↔ StarR (Mt P a) i j
  rw [hs i j hi hj]
  constructor
  · intro s
    clear hs hj
    induction s with
    | refl => exact .refl
    | step _ r ih => exact .step ih ((ha _ _ (by have := r.1; have := r.2.1; omega) r.2.1).1 r.2.2)
  · intro s
    have key : ∀ j, StarR (Mt P a) i j → j < 11 → StarR (Ro F) i j := by
      intro j s
      induction s with
      | refl => exact fun _ => .refl
      | step _ r ih =>
        intro hj
        have l := mt_le a _ _ r
        exact .step (ih (by omega)) ⟨l, hj, (ha _ _ (by omega) hj).2 r⟩
    exact key j s hj
theorem path_gp2 (P : List Int) : (decide (P.length ≤ 10) && pathB P.length (fun i => P.getD i 0)) = gpB P := by
  rw [gpB, Bool.and_comm]
  congr 1
  rw [Bool.eq_iff_iff, pathB, List.all_eq_true, List.all_eq_true]
  constructor
  · intro h x hx
    obtain ⟨i, hi, e⟩ := List.mem_iff_getElem.1 hx
    have := h i (List.mem_range.2 hi)
    simp only [pathOk, List.getD_eq_getElem?_getD, List.getElem?_eq_getElem hi, Option.getD_some, e] at this
    exact this
  · intro h i hi
    have hi := List.mem_range.1 hi
    simp only [pathOk, List.getD_eq_getElem?_getD, List.getElem?_eq_getElem hi, Option.getD_some]
    exact h _ (List.getElem_mem hi)
def SpIn (P : List Int) (t : Re) (w : World) (e : Ending) (w' : World) : Prop := ∃ F, e = .returned (.agg (sp F).toArray) ∧ SpF P t F ∧ Below w.heap.size w w'
set_option maxRecDepth 100000 in
set_option maxHeartbeats 6400000 in
theorem i_spansIn (P : List Int) (ap : Option Addr) (cp : Nat) (hP : P.length ≤ 10) (t : Re) : ∀ w : World, RowN .i64 ap P w → Calls Tryz.prog 163 #[pv t, .slice ap P.length cp] w (SpIn P t w) := by
  have hz := zero121
  induction t with
  | non =>
    intro w hR
    have t_emp := ta_non_emp
    have t_one := ta_non_one
    have t_any := ta_non_any
    have t_thn := ta_non_thn
    have t_alt := ta_non_alt
    have t_str := ta_non_str
    simp only [pv]
    have MR0 := Mut.new w (sp noF).toArray 203
    have dR : Below w.heap.size w (w.alloc (.cells (sp noF).toArray 203)) := below_box (Below.refl _ _)
    have MR := hide MR0
    go_enter Tryz.func163, Tryz.ntmps163
    go_wp2_with (first | (refine wpList_storeM rfl rfl rfl rfl MR.out (by exact (sp_len _).trans (sp_len _).symm) (sp_one _) (size121 _) ?_; intro w9 hM9 hO9))
    exact bodyPost_ret (results_arr rfl rfl hM9 Tryz.underlying203 (size121 _)) rfl ⟨_, rfl, spF_non P, dR.trans (hO9.below (by have := MR.out.1; omega))⟩
  | emp =>
    intro w hR
    have t_emp := ta_emp_emp
    have t_one := ta_emp_one
    have t_any := ta_emp_any
    have t_thn := ta_emp_thn
    have t_alt := ta_emp_alt
    have t_str := ta_emp_str
    simp only [pv]
    have MR0 := Mut.new w (sp noF).toArray 203
    have dR : Below w.heap.size w (w.alloc (.cells (sp noF).toArray 203)) := below_box (Below.refl _ _)
    have ES := hide (fun w => i_emptySpans w)
    have bW : Below (w.alloc (.cells (sp noF).toArray 203)).heap.size (w.alloc (.cells (sp noF).toArray 203)) ((w.alloc (.cells (sp noF).toArray 203)).alloc (.cells #[] 217)) := below_box (Below.refl _ _)
    go_enter Tryz.func163, Tryz.ntmps163
    go_wp2_with fail
    refine (ES.out _).mono ?_
    rintro e w2 ⟨rfl, b2⟩
    have MR := hide ((MR0.below bW).below b2)
    have dW := dR.trans (bW.mono dR.size)
    have d2 := dW.trans (b2.mono dW.size)
    go_wp2_with (first | (refine wpList_storeM rfl rfl rfl rfl MR.out (by exact (sp_len _).trans (sp_len _).symm) (sp_one _) (size121 _) ?_; intro w9 hM9 hO9))
    exact bodyPost_ret (results_arr rfl rfl hM9 Tryz.underlying203 (size121 _)) rfl ⟨_, rfl, spF_emp P, d2.trans (hO9.below (by have := MR.out.1; omega))⟩
  | one n =>
    intro w hR
    have t_emp := ta_one_emp
    have t_one := ta_one_one
    have t_any := ta_one_any
    have t_thn := ta_one_thn
    have t_alt := ta_one_alt
    have t_str := ta_one_str
    simp only [pv]
    have MR0 := Mut.new w (sp noF).toArray 203
    have dR : Below w.heap.size w (w.alloc (.cells (sp noF).toArray 203)) := below_box (Below.refl _ _)
    have NS := hide (fun w R => i_numberSpans ap cp P false n w hP R)
    have bW : Below (w.alloc (.cells (sp noF).toArray 203)).heap.size (w.alloc (.cells (sp noF).toArray 203)) ((w.alloc (.cells (sp noF).toArray 203)).alloc (.cells #[.int .i64 n] 220)) := below_box (Below.refl _ _)
    go_enter Tryz.func163, Tryz.ntmps163
    go_wp2_with fail
    refine (NS.out _ (hR.below (dR.trans (bW.mono dR.size)))).mono ?_
    rintro e w2 ⟨rfl, b2⟩
    have MR := hide ((MR0.below bW).below b2)
    have dW := dR.trans (bW.mono dR.size)
    have d2 := dW.trans (b2.mono dW.size)
    go_wp2_with (first | (refine wpList_storeM rfl rfl rfl rfl MR.out (by exact (sp_len _).trans (sp_len _).symm) (sp_one _) (size121 _) ?_; intro w9 hM9 hO9))
    exact bodyPost_ret (results_arr rfl rfl hM9 Tryz.underlying203 (size121 _)) rfl ⟨_, rfl, spF_one P n, d2.trans (hO9.below (by have := MR.out.1; omega))⟩
  | any =>
    intro w hR
    have t_emp := ta_any_emp
    have t_one := ta_any_one
    have t_any := ta_any_any
    have t_thn := ta_any_thn
    have t_alt := ta_any_alt
    have t_str := ta_any_str
    simp only [pv]
    have MR0 := Mut.new w (sp noF).toArray 203
    have dR : Below w.heap.size w (w.alloc (.cells (sp noF).toArray 203)) := below_box (Below.refl _ _)
    have NS := hide (fun w R => i_numberSpans ap cp P true 0 w hP R)
    have bW : Below (w.alloc (.cells (sp noF).toArray 203)).heap.size (w.alloc (.cells (sp noF).toArray 203)) ((w.alloc (.cells (sp noF).toArray 203)).alloc (.cells #[] 222)) := below_box (Below.refl _ _)
    go_enter Tryz.func163, Tryz.ntmps163
    go_wp2_with fail
    refine (NS.out _ (hR.below (dR.trans (bW.mono dR.size)))).mono ?_
    rintro e w2 ⟨rfl, b2⟩
    have MR := hide ((MR0.below bW).below b2)
    have dW := dR.trans (bW.mono dR.size)
    have d2 := dW.trans (b2.mono dW.size)
    go_wp2_with (first | (refine wpList_storeM rfl rfl rfl rfl MR.out (by exact (sp_len _).trans (sp_len _).symm) (sp_one _) (size121 _) ?_; intro w9 hM9 hO9))
    exact bodyPost_ret (results_arr rfl rfl hM9 Tryz.underlying203 (size121 _)) rfl ⟨_, rfl, spF_any P 0, d2.trans (hO9.below (by have := MR.out.1; omega))⟩
  | thn a b ha hb =>
    intro w hR
    have t_emp := ta_thn_emp
    have t_one := ta_thn_one
    have t_any := ta_thn_any
    have t_thn := ta_thn_thn
    have t_alt := ta_thn_alt
    have t_str := ta_thn_str
    simp only [pv]
    have MR0 := Mut.new w (sp noF).toArray 203
    have dR : Below w.heap.size w (w.alloc (.cells (sp noF).toArray 203)) := below_box (Below.refl _ _)
    have TS := hide (fun F G w => i_thenSpans F G w)
    have ia := hide ha
    have ib := hide hb
    clear ha hb
    obtain ⟨ta, ca, ea⟩ := pv_shape a
    obtain ⟨tb, cb, eb⟩ := pv_shape b
    rw [ea, eb]
    rw [ea] at ia
    rw [eb] at ib
    clear ea eb
    have MB0 := Mut.new (w.alloc (.cells (sp noF).toArray 203)) #[.iface ta (.agg ca), .iface tb (.agg cb)] 224
    rw [World.size_alloc] at MB0
    have bW : Below (w.alloc (.cells (sp noF).toArray 203)).heap.size (w.alloc (.cells (sp noF).toArray 203)) ((w.alloc (.cells (sp noF).toArray 203)).alloc (.cells #[.iface ta (.agg ca), .iface tb (.agg cb)] 224)) := below_box (Below.refl _ _)
    have MR1 := MR0.below bW
    have dW := dR.trans (bW.mono dR.size)
    go_enter Tryz.func163, Tryz.ntmps163
    go_wp2_with fail
    clear MR0 dR bW
    generalize (w.alloc (.cells (sp noF).toArray 203)).alloc (.cells #[.iface ta (.agg ca), .iface tb (.agg cb)] 224) = w2 at *
    have hS := fun (w' : World) (h : Below w2.heap.size w2 w') => And.intro ((MB0.below h).2.1 0 _ rfl) ((MB0.below h).2.1 1 _ rfl)
    refine wp_region_held_drew (S := fun w' => w'.cell? ⟨w.heap.size + 1, 0, none⟩ = some (.iface ta (.agg ca)) ∧ w'.cell? ⟨w.heap.size + 1, 1, none⟩ = some (.iface tb (.agg cb))) (by kernel_rfl) (hS _ (Below.refl _ _).drew) (fun hHeld => ?_)
    refine wpAnyH_take (i := 0) (v := .pointer (some ⟨w.heap.size + 1, 0, none⟩)) rfl (by kernel_rfl) (by kernel_rfl) (by kernel_rfl) (fun _ _ _ h => h) (Or.inl ⟨by rfl, fun w' hSw => by obtain ⟨s0, s1⟩ := hSw; go_simp⟩) hHeld ?_
    simp only [List.getElem_toArray, List.getElem_cons_zero, Act.put, List.setIfInBounds_toArray, List.set_cons_zero, List.set_cons_succ]
    refine wpAnyH_take (i := 1) (v := .iface ta (.agg ca)) rfl (by kernel_rfl) (by kernel_rfl) (by kernel_rfl) (fun _ _ _ h => h) (Or.inl ⟨by rfl, fun w' hSw => by obtain ⟨s0, s1⟩ := hSw; go_simp⟩) hHeld ?_
    simp only [List.getElem_toArray, List.getElem_cons_succ, List.getElem_cons_zero, Act.put, List.setIfInBounds_toArray, List.set_cons_zero, List.set_cons_succ]
    refine wpAnyH_take (i := 2) (v := .slice ap P.length cp) rfl (by kernel_rfl) (by kernel_rfl) (by kernel_rfl) (fun _ _ _ h => h) (Or.inl ⟨by rfl, fun w' hSw => by obtain ⟨s0, s1⟩ := hSw; go_simp⟩) hHeld ?_
    simp only [List.getElem_toArray, List.getElem_cons_succ, List.getElem_cons_zero, Act.put, List.setIfInBounds_toArray, List.set_cons_zero, List.set_cons_succ]
    refine wpAnyH_take (i := 4) (v := .pointer (some ⟨w.heap.size + 1, 1, none⟩)) rfl (by kernel_rfl) (by kernel_rfl) (by kernel_rfl) (fun _ _ _ h => h) (Or.inl ⟨by rfl, fun w' hSw => by obtain ⟨s0, s1⟩ := hSw; go_simp⟩) hHeld ?_
    simp only [List.getElem_toArray, List.getElem_cons_succ, List.getElem_cons_zero, Act.put, List.setIfInBounds_toArray, List.set_cons_zero, List.set_cons_succ]
    refine wpAnyH_take (i := 5) (v := .iface tb (.agg cb)) rfl (by kernel_rfl) (by kernel_rfl) (by kernel_rfl) (fun _ _ _ h => h) (Or.inl ⟨by rfl, fun w' hSw => by obtain ⟨s0, s1⟩ := hSw; go_simp⟩) hHeld ?_
    simp only [List.getElem_toArray, List.getElem_cons_succ, List.getElem_cons_zero, Act.put, List.setIfInBounds_toArray, List.set_cons_zero, List.set_cons_succ]
    refine wpAnyH_take (i := 6) (v := .slice ap P.length cp) rfl (by kernel_rfl) (by kernel_rfl) (by kernel_rfl) (fun _ _ _ h => h) (Or.inl ⟨by rfl, fun w' hSw => by obtain ⟨s0, s1⟩ := hSw; go_simp⟩) hHeld ?_
    simp only [List.getElem_toArray, List.getElem_cons_succ, List.getElem_cons_zero, Act.put, List.setIfInBounds_toArray, List.set_cons_zero, List.set_cons_succ]
    refine wpAnyH_ready (rs := [3]) (by kernel_rfl) (by simp) (AllReadyH.cons rfl (fun K hK => ?_) AllReadyH.nil)
    go_simp
    refine (ia.out _ (hR.below (dW.trans ((Below.refl w2.heap.size w2).drew.mono dW.size)))).mono ?_
    rintro e wA ⟨F, rfl, hF, bA⟩
    have dA : Below w2.heap.size w2 wA := (Below.refl _ _).drew.trans bA
    refine hK.out _ _ (hS _ dA) (fun hHeld => ?_)
    clear hK K
    refine wpAnyH_ready (rs := [7]) (by kernel_rfl) (by simp) (AllReadyH.cons rfl (fun K hK => ?_) AllReadyH.nil)
    go_simp
    refine (ib.out _ (hR.below (dW.trans (dA.mono dW.size)))).mono ?_
    rintro e wB ⟨G, rfl, hG, bB⟩
    have dB : Below w2.heap.size w2 wB := dA.trans (bB.mono dA.size)
    refine hK.out _ _ (hS _ dB) (fun hHeld => ?_)
    clear hK K
    refine wpAnyH_ready (rs := [8]) (by kernel_rfl) (by simp) (AllReadyH.cons rfl (fun K hK => ?_) AllReadyH.nil)
    go_simp
    refine (TS.out _ _ _).mono ?_
    rintro e wC ⟨rfl, bC⟩
    have dC : Below w2.heap.size w2 wC := dB.trans (bC.mono dB.size)
    refine hK.out _ _ (hS _ dC) (fun hHeld => ?_)
    clear hK K
    refine wpAnyH_ready (rs := [9]) (by kernel_rfl) (by simp) (AllReadyH.cons rfl (fun K hK => ?_) AllReadyH.nil)
    rw [if_pos (by rfl)]
    have MRC := MR1.below dC
    have MBC := MB0.below dC
    refine wp_store_mid _ _ _ rfl _ _ (sp (fun x y => thB F G x y (y + 1))).toArray rfl rfl (mut_there MRC ((sp_len noF).trans (sp_len (fun x y => thB F G x y (y + 1))).symm)) (size121 (fun x y => thB F G x y (y + 1))) (all_oneCell_toArray (sp_one (fun x y => thB F G x y (y + 1)))) ?_
    have hM9 := MRC.fill (us := sp (fun x y => thB F G x y (y + 1))) ((sp_len _).trans (sp_len _).symm)
    have hO9 := only_cells w.heap.size (sp (fun x y => thB F G x y (y + 1))) 0 wC
    have MB9 := MBC.only hO9 (by omega)
    have d9 := (dW.trans (dC.mono dW.size)).trans (hO9.below (by have := MRC.1; omega))
    refine hK.out _ _ ⟨MB9.2.1 0 _ rfl, MB9.2.1 1 _ rfl⟩ (fun hHeld => ?_)
    clear hK K
    refine wpAnyH_done (by kernel_rfl) ?_ _
    simp only [List.getElem_toArray, List.getElem_cons_succ, List.getElem_cons_zero, Act.put]
    replace hM9 := hide hM9
    replace d9 := hide d9
    clear hO9 MB9 MBC MRC hHeld
    generalize wC.setCells w.heap.size 0 (sp (fun x y => thB F G x y (y + 1))) = w9 at *
    go_wp2_with fail
    exact bodyPost_ret (results_arr rfl rfl hM9.out Tryz.underlying203 (size121 _)) rfl ⟨_, rfl, spF_thn hF hG, d9.out⟩
  | alt a b ha hb =>
    intro w hR
    have t_emp := ta_alt_emp
    have t_one := ta_alt_one
    have t_any := ta_alt_any
    have t_thn := ta_alt_thn
    have t_alt := ta_alt_alt
    have t_str := ta_alt_str
    simp only [pv]
    have MR0 := Mut.new w (sp noF).toArray 203
    have dR : Below w.heap.size w (w.alloc (.cells (sp noF).toArray 203)) := below_box (Below.refl _ _)
    have TS := hide (fun F G w => i_orSpans F G w)
    have ia := hide ha
    have ib := hide hb
    clear ha hb
    obtain ⟨ta, ca, ea⟩ := pv_shape a
    obtain ⟨tb, cb, eb⟩ := pv_shape b
    rw [ea, eb]
    rw [ea] at ia
    rw [eb] at ib
    clear ea eb
    have MB0 := Mut.new (w.alloc (.cells (sp noF).toArray 203)) #[.iface ta (.agg ca), .iface tb (.agg cb)] 226
    rw [World.size_alloc] at MB0
    have bW : Below (w.alloc (.cells (sp noF).toArray 203)).heap.size (w.alloc (.cells (sp noF).toArray 203)) ((w.alloc (.cells (sp noF).toArray 203)).alloc (.cells #[.iface ta (.agg ca), .iface tb (.agg cb)] 226)) := below_box (Below.refl _ _)
    have MR1 := MR0.below bW
    have dW := dR.trans (bW.mono dR.size)
    go_enter Tryz.func163, Tryz.ntmps163
    go_wp2_with fail
    clear MR0 dR bW
    generalize (w.alloc (.cells (sp noF).toArray 203)).alloc (.cells #[.iface ta (.agg ca), .iface tb (.agg cb)] 226) = w2 at *
    have hS := fun (w' : World) (h : Below w2.heap.size w2 w') => And.intro ((MB0.below h).2.1 0 _ rfl) ((MB0.below h).2.1 1 _ rfl)
    refine wp_region_held_drew (S := fun w' => w'.cell? ⟨w.heap.size + 1, 0, none⟩ = some (.iface ta (.agg ca)) ∧ w'.cell? ⟨w.heap.size + 1, 1, none⟩ = some (.iface tb (.agg cb))) (by kernel_rfl) (hS _ (Below.refl _ _).drew) (fun hHeld => ?_)
    refine wpAnyH_take (i := 0) (v := .pointer (some ⟨w.heap.size + 1, 0, none⟩)) rfl (by kernel_rfl) (by kernel_rfl) (by kernel_rfl) (fun _ _ _ h => h) (Or.inl ⟨by rfl, fun w' hSw => by obtain ⟨s0, s1⟩ := hSw; go_simp⟩) hHeld ?_
    simp only [List.getElem_toArray, List.getElem_cons_zero, Act.put, List.setIfInBounds_toArray, List.set_cons_zero, List.set_cons_succ]
    refine wpAnyH_take (i := 1) (v := .iface ta (.agg ca)) rfl (by kernel_rfl) (by kernel_rfl) (by kernel_rfl) (fun _ _ _ h => h) (Or.inl ⟨by rfl, fun w' hSw => by obtain ⟨s0, s1⟩ := hSw; go_simp⟩) hHeld ?_
    simp only [List.getElem_toArray, List.getElem_cons_succ, List.getElem_cons_zero, Act.put, List.setIfInBounds_toArray, List.set_cons_zero, List.set_cons_succ]
    refine wpAnyH_take (i := 2) (v := .slice ap P.length cp) rfl (by kernel_rfl) (by kernel_rfl) (by kernel_rfl) (fun _ _ _ h => h) (Or.inl ⟨by rfl, fun w' hSw => by obtain ⟨s0, s1⟩ := hSw; go_simp⟩) hHeld ?_
    simp only [List.getElem_toArray, List.getElem_cons_succ, List.getElem_cons_zero, Act.put, List.setIfInBounds_toArray, List.set_cons_zero, List.set_cons_succ]
    refine wpAnyH_take (i := 4) (v := .pointer (some ⟨w.heap.size + 1, 1, none⟩)) rfl (by kernel_rfl) (by kernel_rfl) (by kernel_rfl) (fun _ _ _ h => h) (Or.inl ⟨by rfl, fun w' hSw => by obtain ⟨s0, s1⟩ := hSw; go_simp⟩) hHeld ?_
    simp only [List.getElem_toArray, List.getElem_cons_succ, List.getElem_cons_zero, Act.put, List.setIfInBounds_toArray, List.set_cons_zero, List.set_cons_succ]
    refine wpAnyH_take (i := 5) (v := .iface tb (.agg cb)) rfl (by kernel_rfl) (by kernel_rfl) (by kernel_rfl) (fun _ _ _ h => h) (Or.inl ⟨by rfl, fun w' hSw => by obtain ⟨s0, s1⟩ := hSw; go_simp⟩) hHeld ?_
    simp only [List.getElem_toArray, List.getElem_cons_succ, List.getElem_cons_zero, Act.put, List.setIfInBounds_toArray, List.set_cons_zero, List.set_cons_succ]
    refine wpAnyH_take (i := 6) (v := .slice ap P.length cp) rfl (by kernel_rfl) (by kernel_rfl) (by kernel_rfl) (fun _ _ _ h => h) (Or.inl ⟨by rfl, fun w' hSw => by obtain ⟨s0, s1⟩ := hSw; go_simp⟩) hHeld ?_
    simp only [List.getElem_toArray, List.getElem_cons_succ, List.getElem_cons_zero, Act.put, List.setIfInBounds_toArray, List.set_cons_zero, List.set_cons_succ]
    refine wpAnyH_ready (rs := [3]) (by kernel_rfl) (by simp) (AllReadyH.cons rfl (fun K hK => ?_) AllReadyH.nil)
    go_simp
    refine (ia.out _ (hR.below (dW.trans ((Below.refl w2.heap.size w2).drew.mono dW.size)))).mono ?_
    rintro e wA ⟨F, rfl, hF, bA⟩
    have dA : Below w2.heap.size w2 wA := (Below.refl _ _).drew.trans bA
    refine hK.out _ _ (hS _ dA) (fun hHeld => ?_)
    clear hK K
    refine wpAnyH_ready (rs := [7]) (by kernel_rfl) (by simp) (AllReadyH.cons rfl (fun K hK => ?_) AllReadyH.nil)
    go_simp
    refine (ib.out _ (hR.below (dW.trans (dA.mono dW.size)))).mono ?_
    rintro e wB ⟨G, rfl, hG, bB⟩
    have dB : Below w2.heap.size w2 wB := dA.trans (bB.mono dA.size)
    refine hK.out _ _ (hS _ dB) (fun hHeld => ?_)
    clear hK K
    refine wpAnyH_ready (rs := [8]) (by kernel_rfl) (by simp) (AllReadyH.cons rfl (fun K hK => ?_) AllReadyH.nil)
    go_simp
    refine (TS.out _ _ _).mono ?_
    rintro e wC ⟨rfl, bC⟩
    have dC : Below w2.heap.size w2 wC := dB.trans (bC.mono dB.size)
    refine hK.out _ _ (hS _ dC) (fun hHeld => ?_)
    clear hK K
    refine wpAnyH_ready (rs := [9]) (by kernel_rfl) (by simp) (AllReadyH.cons rfl (fun K hK => ?_) AllReadyH.nil)
    rw [if_pos (by rfl)]
    have MRC := MR1.below dC
    have MBC := MB0.below dC
    refine wp_store_mid _ _ _ rfl _ _ (sp (fun i j => F i j || G i j)).toArray rfl rfl (mut_there MRC ((sp_len noF).trans (sp_len (fun i j => F i j || G i j)).symm)) (size121 (fun i j => F i j || G i j)) (all_oneCell_toArray (sp_one (fun i j => F i j || G i j))) ?_
    have hM9 := MRC.fill (us := sp (fun i j => F i j || G i j)) ((sp_len _).trans (sp_len _).symm)
    have hO9 := only_cells w.heap.size (sp (fun i j => F i j || G i j)) 0 wC
    have MB9 := MBC.only hO9 (by omega)
    have d9 := (dW.trans (dC.mono dW.size)).trans (hO9.below (by have := MRC.1; omega))
    refine hK.out _ _ ⟨MB9.2.1 0 _ rfl, MB9.2.1 1 _ rfl⟩ (fun hHeld => ?_)
    clear hK K
    refine wpAnyH_done (by kernel_rfl) ?_ _
    simp only [List.getElem_toArray, List.getElem_cons_succ, List.getElem_cons_zero, Act.put]
    replace hM9 := hide hM9
    replace d9 := hide d9
    clear hO9 MB9 MBC MRC hHeld
    generalize wC.setCells w.heap.size 0 (sp (fun i j => F i j || G i j)) = w9 at *
    go_wp2_with fail
    exact bodyPost_ret (results_arr rfl rfl hM9.out Tryz.underlying203 (size121 _)) rfl ⟨_, rfl, spF_alt hF hG, d9.out⟩
  | str a ha =>
    intro w hR
    have t_emp := ta_str_emp
    have t_one := ta_str_one
    have t_any := ta_str_any
    have t_thn := ta_str_thn
    have t_alt := ta_str_alt
    have t_str := ta_str_str
    simp only [pv]
    have MR0 := Mut.new w (sp noF).toArray 203
    have dR : Below w.heap.size w (w.alloc (.cells (sp noF).toArray 203)) := below_box (Below.refl _ _)
    have SS := hide (fun F w => i_starSpans F w)
    have ia := hide ha
    clear ha
    obtain ⟨ta, ca, ea⟩ := pv_shape a
    rw [ea]
    rw [ea] at ia
    clear ea
    have bW : Below (w.alloc (.cells (sp noF).toArray 203)).heap.size (w.alloc (.cells (sp noF).toArray 203)) ((w.alloc (.cells (sp noF).toArray 203)).alloc (.cells #[.iface ta (.agg ca)] 228)) := below_box (Below.refl _ _)
    have dW := dR.trans (bW.mono dR.size)
    go_enter Tryz.func163, Tryz.ntmps163
    go_wp2_with fail
    refine (ia.out _ (hR.below dW)).mono ?_
    rintro e w1 ⟨F, rfl, hF, b1⟩
    have d1 := dW.trans (b1.mono dW.size)
    go_wp2_with fail
    refine (SS.out F _).mono ?_
    rintro e w2 ⟨G, rfl, hG, b2⟩
    have MR := hide (((MR0.below bW).below b1).below b2)
    have d2 := d1.trans (b2.mono d1.size)
    go_wp2_with (first | (refine wpList_storeM rfl rfl rfl rfl MR.out (by exact (sp_len _).trans (sp_len _).symm) (sp_one _) (size121 _) ?_; intro w9 hM9 hO9))
    exact bodyPost_ret (results_arr rfl rfl hM9 Tryz.underlying203 (size121 _)) rfl ⟨_, rfl, spF_str hF hG, d2.trans (hO9.below (by have := MR.out.1; omega))⟩
theorem i_goodPathM (a : Option Addr) (P : List Int) (c : Nat) (w : World) (hl : P.length ≤ 1048576) (R : RowN .i64 a P w) :
    Calls Tryz.prog 139 #[.slice a P.length c] w fun e w' => e = .returned (.bool (gpB P)) ∧ w' = w := by
  rw [← path_gp2]
  exact i_goodPath a P.length c (fun i => P.getD i 0) w hl R
theorem ixO (F : Nat → Nat → Bool) (w : World) : (Instr.index 203 (.agg (sp F).toArray) (.int .i64 0)).run Tryz.prog w = .ok (.agg (bits 11 (F 0)).toArray) w := by
  have h := sp_part F (i := 0) (by decide)
  rw [Nat.zero_mul, List.drop_zero] at h
  simp [Instr.index, go_sem, h]
theorem ixI (f : Nat → Bool) (k : Nat) (h : k < 11) (w : World) : (Instr.index 201 (.agg (bits 11 f).toArray) (.int .i64 k)).run Tryz.prog w = .ok (.bool (f k)) w := by
  simp [Instr.index, go_sem, h, bits_get h]
set_option maxRecDepth 100000 in
set_option maxHeartbeats 1600000 in
theorem i_matchPath (a : Option Addr) (cap : Nat) (L : List Cl) (ap : Option Addr) (cp : Nat) (P : List Int) (r : Bool) (w : World) (hm : L.length ≤ 8589934592) (hc : L.length ≤ cap) (hlp : P.length ≤ 1048576) (hr : MpB L P r) (hR : RowQ a L w) (hP : RowN .i64 ap P w) :
    Calls Tryz.prog 117 #[.slice a L.length cap, .slice ap P.length cp] w fun e w' => e = .returned (.tuple #[.bool r, .bool (rgB L && gpB P)]) ∧ Below w.heap.size w w' := by
  have S1 := hide (fun w hR => i_readRegex a cap L w hm hc hR)
  have GP := hide (fun w R => i_goodPathM ap P cp w hlp R)
  cases h : rg L with
  | none =>
    rw [mp_none hr h, show rgB L = false from by simp [rgB, h], Bool.false_and]
    rw [h] at S1
    clear hr h GP
    go_enter Tryz.func117, Tryz.ntmps117
    go_wp2_with fail
    refine (S1.out _ hR).mono ?_
    rintro e w1 ⟨p, hp, rfl, b1⟩
    go_wp2_with fail
    go_ret2
    exact ⟨rfl, b1⟩
  | some t =>
    rw [show rgB L = true from by simp [rgB, h], Bool.true_and]
    rw [h] at S1
    obtain ⟨ta, ca, ea⟩ := pv_shape t
    cases hg : gpB P with
    | false =>
      rw [mp_bad hr hg]
      rw [hg] at GP
      simp only [RgP, ea] at S1
      clear hr h hg
      go_enter Tryz.func117, Tryz.ntmps117
      go_wp2_with fail
      refine (S1.out _ hR).mono ?_
      rintro e w1 ⟨rfl, b1⟩
      go_wp2_with fail
      refine (GP.out _ (hP.below b1)).mono ?_
      rintro e w_ ⟨rfl, hw_⟩
      rw [hw_]
      clear hw_ w_
      go_wp2_with fail
      go_ret2
      exact ⟨rfl, b1⟩
    | true =>
      have hy := mp_yes hr h hg
      have h10 := gp_ten hg
      rw [hg] at GP
      have SI := hide (fun w R => i_spansIn P ap cp h10 t w R)
      simp only [RgP, ea] at S1
      rw [ea] at SI
      clear hr h hg ea
      go_enter Tryz.func117, Tryz.ntmps117
      go_wp2_with fail
      refine (S1.out _ hR).mono ?_
      rintro e w1 ⟨rfl, b1⟩
      go_wp2_with fail
      refine (GP.out _ (hP.below b1)).mono ?_
      rintro e w_ ⟨rfl, hw_⟩
      rw [hw_]
      clear hw_ w_
      go_wp2_with fail
      refine (SI.out _ (hP.below b1)).mono ?_
      rintro e w2 ⟨F, rfl, hF, b2⟩
      have d2 := b1.trans (b2.mono b1.size)
      have i0 := ixO F
      have i1 := ixI (F 0) P.length (by omega)
      have hFr : F 0 P.length = r := by
        rw [Bool.eq_iff_iff]
        exact (hF 0 P.length (by decide) (by omega)).trans hy.symm
      rw [hFr] at i1
      clear hFr hF hy
      go_wp2_with fail
      go_ret2
      exact ⟨rfl, d2⟩
end Go.Proofs.YtocgghhlfmgndaaGreat
