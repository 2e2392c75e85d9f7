/- CrashDisk of the program. -/
import Derived.Test.YtddjefmokpfplaaDoorOO17c
import Derived.Test.YtddjefmokpfplaaDoorCr17
import Derived.Test.YtddjefmokpfplaaDoorWT17
namespace Go.Proofs.YtddjefmokpfplaaDoor
open Go.RowKit

/-- What CrashDisk answers. -/
noncomputable def cdA (d : Dk) (km : Nat) (K : Nat → Bool) : Dk × Bool := @ite _ (GD17 d ∧ km = d.m) (Classical.propDecidable _) (crD d K, true) (zD, false)
theorem cdA_t {d : Dk} {km : Nat} {K : Nat → Bool} (h : GD17 d ∧ km = d.m) : cdA d km K = (crD d K, true) := by unfold cdA; rw [if_pos h]
theorem cdA_f {d : Dk} {km : Nat} {K : Nat → Bool} (h : ¬ (GD17 d ∧ km = d.m)) : cdA d km K = (zD, false) := by unfold cdA; rw [if_neg h]
theorem cdA_small (d : Dk) (km : Nat) (K : Nat → Bool) (l : LowD d) : (cdA d km K).1.n ≤ 1048576 ∧ (cdA d km K).1.m ≤ 1048576 := by
  by_cases h : GD17 d ∧ km = d.m
  · rw [cdA_t h]
    exact ⟨l.1, Nat.zero_le _⟩
  · rw [cdA_f h]
    exact ⟨Nat.zero_le _, Nat.zero_le _⟩
theorem RowBl.stable {ka : Option Addr} {m base : Nat} {K : Nat → Bool} {w0 w1 w' : World} (h : RowBl ka m K w0) (b : Below w0.heap.size w0 w1) (o : OnlyP (fun y => base ≤ y) w1 w') (hb : w0.heap.size ≤ base) : RowBl ka m K w' := fun i hi => by
  obtain ⟨x, off, e, hx, c⟩ := h i hi
  have h1 := b.size
  have h2 := o.2.2.2.1
  exact ⟨x, off, e, by omega, (o.cell (by omega) (by omega)).trans ((b.cell (p := ⟨x, off + i, none⟩) hx).trans c)⟩
set_option maxRecDepth 100000 in
set_option maxHeartbeats 1600000 in
theorem i_crashDisk1Y (k : Nat) (pk : Addr) (d : Dk) (ka : Option Addr) (kc : Nat) (K : Nat → Bool) (base : Nat) (w0 w : World) (ck : w.cell? pk = some (.slice ka d.m kc)) (hg : GD17 d) (hD : HasD (fun y => base ≤ y) k d w) (hR : RowBl ka d.m K w0) (hb : Below w0.heap.size w0 w) (hs : w0.heap.size ≤ base) :
    Calls Tryd.prog 39 #[.pointer (some ⟨k, 0, none⟩), .pointer (some pk)] w fun e w' => e = .returned (.tuple #[]) ∧ HasD (fun y => base ≤ y) k (crD d K) w' ∧ Below base w w' := by
  have C := hide (fun h => i_crashY (fun y => base ≤ y) k d ka kc K w hg h (fun w' o => hR.stable hb o hs))
  obtain ⟨l1, l2⟩ := hD.lt
  have l1 : base ≤ k := l1
  clear hR hb hs hg
  go_enter Tryd.func39, Tryd.ntmps39
  go_wp2_with fail
  refine (C.out hD).mono ?_
  rintro e w1 ⟨rfl, H, O⟩
  go_wp2_with fail
  exact ⟨rfl, .tuple #[], by simp [results, Tryd.results39, go_sem], rfl, H, O.below (fun y _ h => h) (by omega)⟩
set_option maxRecDepth 100000 in
set_option maxHeartbeats 1600000 in
theorem i_crashDisk1N (gp : Addr) (k : Nat) (pk : Addr) (d : Dk) (ka : Option Addr) (km kc : Nat) (base : Nat) (w : World) (ck : w.cell? pk = some (.slice ka km kc)) (hne : km ≠ d.m) (hG : GU gp w) (hD : HasD (fun y => base ≤ y) k d w) :
    Calls Tryd.prog 39 #[.pointer (some ⟨k, 0, none⟩), .pointer (some pk)] w fun e w' => e = gaveUp gp ∧ Below base w w' := by
  have C := hide (fun h1 h => i_crashN gp (fun y => base ≤ y) k d ka km kc w hne h1 h)
  go_enter Tryd.func39, Tryd.ntmps39
  go_wp2_with fail
  refine (C.out hG hD).mono ?_
  rintro e w1 ⟨rfl, rfl⟩
  exact ⟨rfl, rfl, Below.refl _ _⟩
set_option maxRecDepth 100000 in
set_option maxHeartbeats 1600000 in
theorem i_crashDisk (gp : Addr) (a b : Option Addr) (c e : Nat) (d : Dk) (ka : Option Addr) (km kc : Nat) (K : Nat → Bool) (w : World) (hl : d.n ≤ 1048576 ∧ d.m ≤ 1048576) (hR : RowD a b d w) (hp : Pl17 b d.m) (hRK : RowBl ka km K w) (hG : GU gp w) :
    Calls Tryd.prog 17 #[.agg #[.slice a d.n c, .slice b d.m e], .slice ka km kc] w (AnsDB (cdA d km K) w) := by
  have hmf : ∀ (fn : Fn) (first cap : Array Value) (w : World), (Instr.makeFunc fn first cap).run Tryd.prog w = .ok (.func fn first cap) w := fun _ _ _ _ => rfl
  obtain ⟨r, hr⟩ : ∃ r, r = cdA d km K := ⟨_, rfl⟩
  rw [← hr]
  unfold AnsDB
  have MK := (Mut.new (w.alloc (.cells #[.slice a d.n c, .slice b d.m e] 29)) #[.slice ka km kc] 38).alloc (.cells #[.slice none 0 0, .slice none 0 0] 29)
  have MR := Mut.new ((w.alloc (.cells #[.slice a d.n c, .slice b d.m e] 29)).alloc (.cells #[.slice ka km kc] 38)) #[.slice none 0 0, .slice none 0 0] 29
  have d0 : Below w.heap.size w (((w.alloc (.cells #[.slice a d.n c, .slice b d.m e] 29)).alloc (.cells #[.slice ka km kc] 38)).alloc (.cells #[.slice none 0 0, .slice none 0 0] 29)) := below_box3 (Below.refl _ _)
  have hzW : (((w.alloc (.cells #[.slice a d.n c, .slice b d.m e] 29)).alloc (.cells #[.slice ka km kc] 38)).alloc (.cells #[.slice none 0 0, .slice none 0 0] 29)).heap.size = w.heap.size + 3 := by simp
  simp only [World.size_alloc] at MK MR
  have hR4 := hR.below d0
  have hG4 := hG.below d0
  have ck := MK.2.1 0 _ rfl
  go_enter Tryd.func17, Tryd.ntmps17
  go_wp2_with fail
  generalize ((w.alloc (.cells #[.slice a d.n c, .slice b d.m e] 29)).alloc (.cells #[.slice ka km kc] 38)).alloc (.cells #[.slice none 0 0, .slice none 0 0] 29) = w4 at *
  by_cases hY : GD17 d ∧ km = d.m
  · obtain rfl := hr.trans (cdA_t hY)
    obtain ⟨hg, rfl⟩ := hY
    have Q := i_ownCd_yes a b c e d ⟨w.heap.size + 1, 0, none⟩ w4 hR4 hp hg (crD d K) (fun w0 hb k w1 h1 h2 => i_crashDisk1Y k _ d ka kc K (w0.heap.size + 1) w w1 ((h1.cell (p := ⟨w.heap.size + 1, 0, none⟩) (by have := hb.size; show w.heap.size + 1 < _; omega)).trans ((hb.cell (p := ⟨w.heap.size + 1, 0, none⟩) (by show w.heap.size + 1 < _; omega)).trans ck)) hg h2 hRK ((d0.trans (hb.mono d0.size)).trans (h1.mono (d0.trans (hb.mono d0.size)).size)) (by have := hb.size; omega))
    refine Q.mono ?_
    rintro ex w5 ⟨v, rfl, ⟨a1, c1, b1, e1, rfl, AN⟩, b5⟩
    replace MR := MR.below b5
    have b5s := b5.size
    clear hr
    go_wp2_with (refine wpList_storeM (us := [.slice a1 (crD d K).n c1, .slice b1 (crD d K).m e1]) rfl rfl rfl rfl MR rfl (by intro v hv; simp only [List.mem_cons, List.not_mem_nil, or_false] at hv; rcases hv with rfl | rfl <;> rfl) sizeDisk17 ?_; intro w6 M6 o6)
    have on := OnlyP.of_only (P := fun y => y = w.heap.size + 1 + 1) o6 rfl
    have d6 := (below_step d0 b5).trans (on.below (base := w.heap.size) (fun y _ hy => by have h : y = w.heap.size + 1 + 1 := hy; omega) (below_step d0 b5).size)
    have r0 := M6.2.1 0 _ rfl
    have r1 := M6.2.1 1 _ rfl
    have AN6 := AN.onlyP on (fun y h1 _ h => by have h : y = w.heap.size + 1 + 1 := h; omega)
    have hs6 := on.2.2.2.1
    exact bodyPost_ret (v := .tuple #[.agg #[.slice a1 (crD d K).n c1, .slice b1 (crD d K).m e1], .bool true]) (by simp [results, Tryd.results17, go_sem, r0, r1]) rfl ⟨a1, b1, ⟨c1, e1, rfl⟩, AN6.wide (by omega) (by omega) (Nat.le_refl _), d6⟩
  · obtain rfl := hr.trans (cdA_f hY)
    clear hr
    have Q := i_ownCd_no gp a b c e d ⟨w.heap.size + 1, 0, none⟩ w4 hR4 hl hp hG4 (fun hg w0 hb k w1 h1 h2 => i_crashDisk1N gp k _ d ka km kc (w0.heap.size + 1) w1 ((h1.cell (p := ⟨w.heap.size + 1, 0, none⟩) (by have := hb.size; show w.heap.size + 1 < _; omega)).trans ((hb.cell (p := ⟨w.heap.size + 1, 0, none⟩) (by show w.heap.size + 1 < _; omega)).trans ck)) (fun h => hY ⟨hg, h⟩) ((hG4.below hb).below h1) h2)
    refine Q.mono ?_
    rintro ex w5 ⟨rfl, b5⟩
    replace MR := MR.below b5
    go_wp2_with (refine wpList_storeM (us := [.slice none 0 0, .slice none 0 0]) rfl rfl rfl rfl MR rfl (by intro v hv; simp only [List.mem_cons, List.not_mem_nil, or_false] at hv; rcases hv with rfl | rfl <;> rfl) sizeDisk17 ?_; intro w6 M6 o6)
    have on := OnlyP.of_only (P := fun y => y = w.heap.size + 1 + 1) o6 rfl
    have d6 := (below_step d0 b5).trans (on.below (base := w.heap.size) (fun y _ hy => by have h : y = w.heap.size + 1 + 1 := hy; omega) (below_step d0 b5).size)
    have r0 := M6.2.1 0 _ rfl
    have r1 := M6.2.1 1 _ rfl
    exact bodyPost_ret (v := .tuple #[.agg #[.slice none 0 0, .slice none 0 0], .bool false]) (by simp [results, Tryd.results17, go_sem, r0, r1]) rfl ⟨none, none, ⟨0, 0, rfl⟩, AnsD.zero _ _ _ _ (Nat.le_refl _), d6⟩
end Go.Proofs.YtddjefmokpfplaaDoor
