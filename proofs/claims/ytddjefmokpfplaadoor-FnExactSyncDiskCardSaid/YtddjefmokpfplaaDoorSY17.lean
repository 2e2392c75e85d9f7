/- sync, SyncDisk of the program. -/
import Derived.Test.YtddjefmokpfplaaDoorRep17
import Derived.Test.YtddjefmokpfplaaDoorOO17y
import Derived.Deep.RegionHeld3
import Derived.Test.YtddjefmokpfplaaDoorCr17
import Derived.Test.YtddjefmokpfplaaDoorWT17
namespace Go.Proofs.YtddjefmokpfplaaDoor
open Go.RowKit

/-- All that waits is kept. -/
def allT : Nat → Bool := fun _ => true
theorem HasD.inside {base k : Nat} {d : Dk} {w : World} (h : HasD (fun y => base ≤ y) k d w) : HasD (fun y => base ≤ y ∧ y < w.heap.size) k d w := by
  obtain ⟨h0, va, vb, M, T, hA, hB⟩ := h
  exact ⟨⟨h0, M.1⟩, va, vb, M, T, fun g hg => ⟨⟨(hA g hg).1, (ownW_lt T.1 hg).2⟩, (hA g hg).2⟩, fun g hg => ⟨⟨(hB g hg).1, (ownW_lt T.2.1 hg).2⟩, (hB g hg).2⟩⟩
theorem OutBl.onlyP18 {P : Nat → Prop} {c n k : Nat} {f : Nat → Bool} {w w' : World} (h : OutBl c n k f w) (b : OnlyP P w w') (hn : ¬ P c) : OutBl c n k f w' := by
  refine ⟨Nat.lt_of_lt_of_le h.1 b.2.2.2.1, fun i hi => ?_⟩
  obtain ⟨⟨x, h0, hk⟩, g0⟩ := h.2 i hi
  exact ⟨⟨x, (b.cell h.1 hn).trans h0, hk⟩, (b.frozen h.1 hn).trans g0⟩
set_option maxRecDepth 100000 in
set_option maxHeartbeats 1600000 in
theorem i_sync (k : Nat) (d : Dk) (base : Nat) (w : World) (hg : GD17 d) (hD : HasD (fun y => base ≤ y) k d w) :
    Calls Tryd.prog 37 #[.pointer (some ⟨k, 0, none⟩)] w fun e w' => e = .returned (.tuple #[]) ∧ HasD (fun y => base ≤ y) k (crD d allT) w' ∧ Below base w w' := by
  obtain ⟨l1, l2⟩ := hD.lt
  have l1 : base ≤ k := l1
  have HD := hD.inside
  obtain ⟨_, va, vb, M, T, _, _⟩ := hD
  obtain ⟨b1, e1, rfl, _, _⟩ := T.2.1.out
  have v1 := M.2.1 1 _ rfl
  have hd := hg.2.1
  have RP := hide (fun b cap w hbl hb => i_repeatB b cap d.m true w hd hbl hb)
  have CR := hide (fun ka kc w' h hK => i_crashY (fun y => base ≤ y ∧ y < w.heap.size) k d ka kc allT w' hg h hK)
  have N := Mut.new w #[.bool true] 4
  have bA : Below w.heap.size w (w.alloc (.cells #[.bool true] 4)) := below_box (Below.refl _ _)
  have hd1 : (d.m : Int) ≤ 40 := by omega
  clear hg M T hd
  go_enter Tryd.func37, Tryd.ntmps37
  go_wp2_with fail
  refine (RP.out _ _ _ N.1 (N.2.1 0 _ rfl)).mono ?_
  rintro e w2 ⟨g, rfl, hgl, OB, b2⟩
  have hz : (w.alloc (.cells #[.bool true] 4)).heap.size = w.heap.size + 1 := by simp
  have f := below_step bA b2
  clear b2 bA N v1 RP
  go_wp2_with fail
  refine (CR.out _ _ _ (HD.below f) (fun w' o => (OB.onlyP18 o (fun h => by have h : base ≤ g ∧ g < w.heap.size := h; omega)).row)).mono ?_
  rintro e w3 ⟨rfl, H, O⟩
  go_wp2_with fail
  exact ⟨rfl, .tuple #[], by simp [results, Tryd.results37, go_sem], rfl, H.mono (fun y h => h.1), (f.mono (by omega)).trans (O.below (base := base) (fun y _ h => h.1) (by have := f.size; omega))⟩
/-- What SyncDisk answers. -/
noncomputable def syA (d : Dk) : Dk × Bool := @ite _ (GD17 d) (Classical.propDecidable _) (crD d allT, true) (zD, false)
theorem syA_t {d : Dk} (h : GD17 d) : syA d = (crD d allT, true) := by unfold syA; rw [if_pos h]
theorem syA_f {d : Dk} (h : ¬ GD17 d) : syA d = (zD, false) := by unfold syA; rw [if_neg h]
theorem syA_small (d : Dk) (l : LowD d) : (syA d).1.n ≤ 1048576 ∧ (syA d).1.m ≤ 1048576 := by
  by_cases h : GD17 d
  · rw [syA_t h]
    exact ⟨l.1, Nat.zero_le _⟩
  · rw [syA_f h]
    exact ⟨Nat.zero_le _, Nat.zero_le _⟩
set_option maxRecDepth 100000 in
set_option maxHeartbeats 1600000 in
theorem i_syncDisk (gp : Addr) (a b : Option Addr) (c e : Nat) (d : Dk) (w : World) (hl : d.n ≤ 1048576 ∧ d.m ≤ 1048576) (hR : RowD a b d w) (hp : Pl17 b d.m) (hG : GU gp w) :
    Calls Tryd.prog 14 #[.agg #[.slice a d.n c, .slice b d.m e]] w (AnsDB (syA d) w) := by
  have hmf : ∀ (fn : Fn) (first cap : Array Value) (w : World), (Instr.makeFunc fn first cap).run Tryd.prog w = .ok (.func fn first cap) w := fun _ _ _ _ => rfl
  obtain ⟨r, hr⟩ : ∃ r, r = syA d := ⟨_, rfl⟩
  rw [← hr]
  unfold AnsDB
  have MR := Mut.new (w.alloc (.cells #[.slice a d.n c, .slice b d.m e] 29)) #[.slice none 0 0, .slice none 0 0] 29
  have M0 := (Mut.new w #[.slice a d.n c, .slice b d.m e] 29).alloc (.cells #[.slice none 0 0, .slice none 0 0] 29)
  have d0 : Below w.heap.size w ((w.alloc (.cells #[.slice a d.n c, .slice b d.m e] 29)).alloc (.cells #[.slice none 0 0, .slice none 0 0] 29)) := below_box2 (Below.refl _ _)
  have hzW : ((w.alloc (.cells #[.slice a d.n c, .slice b d.m e] 29)).alloc (.cells #[.slice none 0 0, .slice none 0 0] 29)).heap.size = w.heap.size + 2 := by simp
  simp only [World.size_alloc] at MR
  have u0 := M0.2.1 0 _ rfl
  have u1 := M0.2.1 1 _ rfl
  have hR4 := hR.below d0
  have hG4 := hG.below d0
  clear M0
  go_enter Tryd.func14, Tryd.ntmps14
  go_wp2_with fail
  clear u0 u1
  generalize (w.alloc (.cells #[.slice a d.n c, .slice b d.m e] 29)).alloc (.cells #[.slice none 0 0, .slice none 0 0] 29) = w4 at *
  by_cases hY : GD17 d
  · obtain rfl := hr.trans (syA_t hY)
    have Q := i_ownSy_yes a b c e d w4 hR4 hp hY (crD d allT) (fun w0 hb k w1 h1 h2 => i_sync k d (w0.heap.size + 1) w1 hY h2)
    refine Q.mono ?_
    rintro ex w5 ⟨v, rfl, ⟨a1, c1, b1, e1, rfl, AN⟩, b5⟩
    replace MR := MR.below b5
    have b5s := b5.size
    clear hr
    go_wp2_with (refine wpList_storeM (us := [.slice a1 (crD d allT).n c1, .slice b1 (crD d allT).m e1]) rfl rfl rfl rfl MR rfl (by intro v hv; simp only [List.mem_cons, List.not_mem_nil, or_false] at hv; rcases hv with rfl | rfl <;> rfl) sizeDisk17 ?_; intro w6 M6 o6)
    have on := OnlyP.of_only (P := fun y => y = w.heap.size + 1) o6 rfl
    have d6 := (below_step d0 b5).trans (on.below (base := w.heap.size) (fun y _ hy => by have h : y = w.heap.size + 1 := hy; omega) (below_step d0 b5).size)
    have r0 := M6.2.1 0 _ rfl
    have r1 := M6.2.1 1 _ rfl
    have AN6 := AN.onlyP on (fun y h1 _ h => by have h : y = w.heap.size + 1 := h; omega)
    have hs6 := on.2.2.2.1
    exact bodyPost_ret (v := .tuple #[.agg #[.slice a1 (crD d allT).n c1, .slice b1 (crD d allT).m e1], .bool true]) (by simp [results, Tryd.results14, go_sem, r0, r1]) rfl ⟨a1, b1, ⟨c1, e1, rfl⟩, AN6.wide (by omega) (by omega) (Nat.le_refl _), d6⟩
  · obtain rfl := hr.trans (syA_f hY)
    clear hr
    have Q := i_ownSy_no gp a b c e d w4 hR4 hl hp hG4 (fun hg => absurd hg hY)
    refine Q.mono ?_
    rintro ex w5 ⟨rfl, b5⟩
    replace MR := MR.below b5
    go_wp2_with (refine wpList_storeM (us := [.slice none 0 0, .slice none 0 0]) rfl rfl rfl rfl MR rfl (by intro v hv; simp only [List.mem_cons, List.not_mem_nil, or_false] at hv; rcases hv with rfl | rfl <;> rfl) sizeDisk17 ?_; intro w6 M6 o6)
    have on := OnlyP.of_only (P := fun y => y = w.heap.size + 1) o6 rfl
    have d6 := (below_step d0 b5).trans (on.below (base := w.heap.size) (fun y _ hy => by have h : y = w.heap.size + 1 := hy; omega) (below_step d0 b5).size)
    have r0 := M6.2.1 0 _ rfl
    have r1 := M6.2.1 1 _ rfl
    exact bodyPost_ret (v := .tuple #[.agg #[.slice none 0 0, .slice none 0 0], .bool false]) (by simp [results, Tryd.results14, go_sem, r0, r1]) rfl ⟨none, none, ⟨0, 0, rfl⟩, AnsD.zero _ _ _ _ (Nat.le_refl _), d6⟩
end Go.Proofs.YtddjefmokpfplaaDoor
