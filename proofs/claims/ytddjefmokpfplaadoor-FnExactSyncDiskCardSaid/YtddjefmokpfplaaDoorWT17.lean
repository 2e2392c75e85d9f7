/- WriteTo of the program. -/
import Derived.Test.YtddjefmokpfplaaDoorOO17
namespace Go.Proofs.YtddjefmokpfplaaDoor
open Go.RowKit

/-- What WriteTo answers. -/
noncomputable def wtA (d : Dk) (x : Int) (s : ByteArray) : Dk × Bool := @ite _ (GD17 d ∧ GW17 x s ∧ d.m < 40) (Classical.propDecidable _) (addD d x s, true) (zD, false)
theorem wtA_t {d : Dk} {x : Int} {s : ByteArray} (h : GD17 d ∧ GW17 x s ∧ d.m < 40) : wtA d x s = (addD d x s, true) := by unfold wtA; rw [if_pos h]
theorem wtA_f {d : Dk} {x : Int} {s : ByteArray} (h : ¬ (GD17 d ∧ GW17 x s ∧ d.m < 40)) : wtA d x s = (zD, false) := by unfold wtA; rw [if_neg h]
theorem wtA_small (d : Dk) (x : Int) (s : ByteArray) (l : LowD d) : (wtA d x s).1.n ≤ 1048576 ∧ (wtA d x s).1.m ≤ 1048576 := by
  by_cases h : GD17 d ∧ GW17 x s ∧ d.m < 40
  · rw [wtA_t h]
    have := h.2.2
    exact ⟨l.1, by show d.m + 1 ≤ _; omega⟩
  · rw [wtA_f h]
    exact ⟨Nat.zero_le _, Nat.zero_le _⟩
/-- A disk and a flag are answered, the disk in memory of its own. -/
def AnsDB (r : Dk × Bool) (w : World) (e : Ending) (w' : World) : Prop := ∃ a b, (∃ c e', e = .returned (.tuple #[.agg #[.slice a r.1.n c, .slice b r.1.m e'], .bool r.2])) ∧ AnsD w.heap.size w'.heap.size a b r.1 w' ∧ Below w.heap.size w w'
theorem HasD.lt {S : Nat → Prop} {k : Nat} {d : Dk} {w : World} (h : HasD S k d w) : S k ∧ k < w.heap.size := by
  obtain ⟨h1, _, _, h2, _⟩ := h
  exact ⟨h1, h2.1⟩
set_option maxRecDepth 100000 in
set_option maxHeartbeats 1600000 in
theorem i_writeTo1Y (k : Nat) (pa ps : Addr) (d : Dk) (x : Int) (s : ByteArray) (base : Nat) (w : World) (ca : w.cell? pa = some (.int .i64 x)) (cs : w.cell? ps = some (.string s)) (hg : GW17 x s) (hm : d.m < 40) (hD : HasD (fun y => base ≤ y) k d w) :
    Calls Tryd.prog 28 #[.pointer (some ⟨k, 0, none⟩), .pointer (some pa), .pointer (some ps)] w fun e w' => e = .returned (.tuple #[]) ∧ HasD (fun y => base ≤ y) k (addD d x s) w' ∧ Below base w w' := by
  have W := hide (fun w h => i_writeY (fun y => base ≤ y) k d x s w hg hm h)
  obtain ⟨l1, l2⟩ := hD.lt
  have l1 : base ≤ k := l1
  go_enter Tryd.func28, Tryd.ntmps28
  go_wp2_with fail
  refine (W.out _ hD).mono ?_
  rintro e w1 ⟨rfl, H, O⟩
  go_wp2_with fail
  have hw2 : base ≤ w.heap.size := by omega
  exact ⟨rfl, .tuple #[], by simp [results, Tryd.results28, go_sem], rfl, H.mono (fun y h => h.elim id (fun q => Nat.le_trans hw2 q)), O.below (fun y _ h => h) hw2⟩
set_option maxRecDepth 100000 in
set_option maxHeartbeats 1600000 in
theorem i_writeTo1N (gp : Addr) (k : Nat) (pa ps : Addr) (d : Dk) (x : Int) (s : ByteArray) (base : Nat) (w : World) (ca : w.cell? pa = some (.int .i64 x)) (cs : w.cell? ps = some (.string s)) (hG : GU gp w) (hg : ¬ (GW17 x s ∧ d.m < 40)) (hD : HasD (fun y => base ≤ y) k d w) :
    Calls Tryd.prog 28 #[.pointer (some ⟨k, 0, none⟩), .pointer (some pa), .pointer (some ps)] w fun e w' => e = gaveUp gp ∧ Below base w w' := by
  have W := hide (fun w h1 h2 => i_writeN gp (fun y => base ≤ y) k d x s w h1 hg h2)
  obtain ⟨l1, l2⟩ := hD.lt
  have l1 : base ≤ k := l1
  go_enter Tryd.func28, Tryd.ntmps28
  go_wp2_with fail
  refine (W.out _ hG hD).mono ?_
  rintro e w1 ⟨rfl, b1⟩
  exact ⟨rfl, rfl, b1.mono (by omega)⟩
set_option maxRecDepth 100000 in
set_option maxHeartbeats 1600000 in
theorem i_writeTo (gp : Addr) (a b : Option Addr) (c e : Nat) (d : Dk) (x : Int) (s : ByteArray) (w : World) (hl : d.n ≤ 1048576 ∧ d.m ≤ 1048576) (hR : RowD a b d w) (hp : Pl17 b d.m) (hG : GU gp w) :
    Calls Tryd.prog 9 #[.agg #[.slice a d.n c, .slice b d.m e], .int .i64 x, .string s] w (AnsDB (wtA d x s) w) := by
  have hmf : ∀ (fn : Fn) (first cap : Array Value) (w : World), (Instr.makeFunc fn first cap).run Tryd.prog w = .ok (.func fn first cap) w := fun _ _ _ _ => rfl
  obtain ⟨r, hr⟩ : ∃ r, r = wtA d x s := ⟨_, rfl⟩
  rw [← hr]
  unfold AnsDB
  have MA := ((Mut.new (w.alloc (.cells #[.slice a d.n c, .slice b d.m e] 29)) #[.int .i64 x] 3).alloc (.cells #[.string s] 9)).alloc (.cells #[.slice none 0 0, .slice none 0 0] 29)
  have MS := (Mut.new ((w.alloc (.cells #[.slice a d.n c, .slice b d.m e] 29)).alloc (.cells #[.int .i64 x] 3)) #[.string s] 9).alloc (.cells #[.slice none 0 0, .slice none 0 0] 29)
  have MR := Mut.new (((w.alloc (.cells #[.slice a d.n c, .slice b d.m e] 29)).alloc (.cells #[.int .i64 x] 3)).alloc (.cells #[.string s] 9)) #[.slice none 0 0, .slice none 0 0] 29
  have M0 := ((Mut.new w #[.slice a d.n c, .slice b d.m e] 29).alloc (.cells #[.int .i64 x] 3))
  have u0 := M0.2.1 0 _ rfl
  have u1 := M0.2.1 1 _ rfl
  have d0 : Below w.heap.size w ((((w.alloc (.cells #[.slice a d.n c, .slice b d.m e] 29)).alloc (.cells #[.int .i64 x] 3)).alloc (.cells #[.string s] 9)).alloc (.cells #[.slice none 0 0, .slice none 0 0] 29)) := below_box3 (below_box (Below.refl _ _))
  have hzW : ((((w.alloc (.cells #[.slice a d.n c, .slice b d.m e] 29)).alloc (.cells #[.int .i64 x] 3)).alloc (.cells #[.string s] 9)).alloc (.cells #[.slice none 0 0, .slice none 0 0] 29)).heap.size = w.heap.size + 4 := by simp
  simp only [World.size_alloc] at MA MS MR
  have hR4 := hR.below d0
  have hG4 := hG.below d0
  have ca := MA.2.1 0 _ rfl
  have cs := MS.2.1 0 _ rfl
  clear M0 u0 u1
  go_enter Tryd.func9, Tryd.ntmps9
  go_wp2_with fail
  generalize (((w.alloc (.cells #[.slice a d.n c, .slice b d.m e] 29)).alloc (.cells #[.int .i64 x] 3)).alloc (.cells #[.string s] 9)).alloc (.cells #[.slice none 0 0, .slice none 0 0] 29) = w4 at *
  by_cases hY : GD17 d ∧ GW17 x s ∧ d.m < 40
  · obtain rfl := hr.trans (wtA_t hY)
    obtain ⟨hg, hgw, hm⟩ := hY
    have Q := i_ownWt_yes a b c e d ⟨w.heap.size + 1, 0, none⟩ ⟨w.heap.size + 1 + 1, 0, none⟩ w4 hR4 hp hg (addD d x s) (fun w0 hb k w1 h1 h2 => i_writeTo1Y k _ _ d x s (w0.heap.size + 1) w1 ((h1.cell (p := ⟨w.heap.size + 1, 0, none⟩) (by have := hb.size; show w.heap.size + 1 < _; omega)).trans ((hb.cell (p := ⟨w.heap.size + 1, 0, none⟩) (by show w.heap.size + 1 < _; omega)).trans ca)) ((h1.cell (p := ⟨w.heap.size + 1 + 1, 0, none⟩) (by have := hb.size; show w.heap.size + 1 + 1 < _; omega)).trans ((hb.cell (p := ⟨w.heap.size + 1 + 1, 0, none⟩) (by show w.heap.size + 1 + 1 < _; omega)).trans cs)) hgw hm h2)
    refine Q.mono ?_
    rintro ex w5 ⟨v, rfl, ⟨a1, c1, b1, e1, rfl, AN⟩, b5⟩
    replace MR := MR.below b5
    have b5s := b5.size
    clear hr
    go_wp2_with (refine wpList_storeM (us := [.slice a1 (addD d x s).n c1, .slice b1 (addD d x s).m e1]) rfl rfl rfl rfl MR rfl (by intro v hv; simp only [List.mem_cons, List.not_mem_nil, or_false] at hv; rcases hv with rfl | rfl <;> rfl) sizeDisk17 ?_; intro w6 M6 o6)
    have on := OnlyP.of_only (P := fun y => y = w.heap.size + 1 + 1 + 1) o6 rfl
    have d6 := (below_step d0 b5).trans (on.below (base := w.heap.size) (fun y _ hy => by have h : y = w.heap.size + 1 + 1 + 1 := hy; omega) (below_step d0 b5).size)
    have r0 := M6.2.1 0 _ rfl
    have r1 := M6.2.1 1 _ rfl
    have AN6 := AN.onlyP on (fun y h1 _ h => by have h : y = w.heap.size + 1 + 1 + 1 := h; omega)
    have hs6 := on.2.2.2.1
    exact bodyPost_ret (v := .tuple #[.agg #[.slice a1 (addD d x s).n c1, .slice b1 (addD d x s).m e1], .bool true]) (by simp [results, Tryd.results9, go_sem, r0, r1]) rfl ⟨a1, b1, ⟨c1, e1, rfl⟩, AN6.wide (by omega) (by omega) (Nat.le_refl _), d6⟩
  · obtain rfl := hr.trans (wtA_f hY)
    clear hr
    have Q := i_ownWt_no gp a b c e d ⟨w.heap.size + 1, 0, none⟩ ⟨w.heap.size + 1 + 1, 0, none⟩ w4 hR4 hl hp hG4 (fun hg w0 hb k w1 h1 h2 => i_writeTo1N gp k _ _ d x s (w0.heap.size + 1) w1 ((h1.cell (p := ⟨w.heap.size + 1, 0, none⟩) (by have := hb.size; show w.heap.size + 1 < _; omega)).trans ((hb.cell (p := ⟨w.heap.size + 1, 0, none⟩) (by show w.heap.size + 1 < _; omega)).trans ca)) ((h1.cell (p := ⟨w.heap.size + 1 + 1, 0, none⟩) (by have := hb.size; show w.heap.size + 1 + 1 < _; omega)).trans ((hb.cell (p := ⟨w.heap.size + 1 + 1, 0, none⟩) (by show w.heap.size + 1 + 1 < _; omega)).trans cs)) ((hG4.below hb).below h1) (fun h => hY ⟨hg, h⟩) h2)
    refine Q.mono ?_
    rintro ex w5 ⟨rfl, b5⟩
    replace MR := MR.below b5
    go_wp2_with (refine wpList_storeM (us := [.slice none 0 0, .slice none 0 0]) rfl rfl rfl rfl MR rfl (by intro v hv; simp only [List.mem_cons, List.not_mem_nil, or_false] at hv; rcases hv with rfl | rfl <;> rfl) sizeDisk17 ?_; intro w6 M6 o6)
    have on := OnlyP.of_only (P := fun y => y = w.heap.size + 1 + 1 + 1) o6 rfl
    have d6 := (below_step d0 b5).trans (on.below (base := w.heap.size) (fun y _ hy => by have h : y = w.heap.size + 1 + 1 + 1 := hy; omega) (below_step d0 b5).size)
    have r0 := M6.2.1 0 _ rfl
    have r1 := M6.2.1 1 _ rfl
    exact bodyPost_ret (v := .tuple #[.agg #[.slice none 0 0, .slice none 0 0], .bool false]) (by simp [results, Tryd.results9, go_sem, r0, r1]) rfl ⟨none, none, ⟨0, 0, rfl⟩, AnsD.zero _ _ _ _ (Nat.le_refl _), d6⟩
end Go.Proofs.YtddjefmokpfplaaDoor
