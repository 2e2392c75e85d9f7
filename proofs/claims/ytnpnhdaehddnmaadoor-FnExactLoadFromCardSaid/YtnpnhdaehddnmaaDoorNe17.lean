/- newest of the program. -/
import Derived.Test.YtnpnhdaehddnmaaDoorSv17
namespace Go.Proofs.YtnpnhdaehddnmaaDoor
open Go.RowKit

set_option maxRecDepth 100000 in
set_option maxHeartbeats 1600000 in
theorem i_new0Y (p : Addr) (k : Nat) (a : Option Addr) (n c : Nat) (f : Nat → ByteArray) (w : World) (cp : w.cell? p = some (.pointer (some ⟨k, 0, none⟩))) (cw : w.cell? ⟨k, 0, none⟩ = some (.slice a n c)) (hR : RowStr a n f w) (hn : 8 + 0 < n) (h : RdOk (f (8 + 0))) :
    Calls Tryd.prog 61 #[.pointer (some p)] w fun e w' => e = .returned (.agg #[.int .i64 0, .int .i64 (rdN (f (8 + 0))), .int .i64 (rdL (f (8 + 0)))]) ∧ Below w.heap.size w w' := by
  have SI := hide (fun w cw R => i_savedInY k a n c f 0 w (by decide) cw R hn h)
  have M := Mut.new w #[.int .i64 0, .int .i64 0, .int .i64 0] 50
  have d0 : Below w.heap.size w (w.alloc (.cells #[.int .i64 0, .int .i64 0, .int .i64 0] 50)) := below_box (Below.refl _ _)
  have hkw := World.block_lt_of_cell? w _ cw
  have hpw : p.block < w.heap.size := World.block_lt_of_cell? w _ cp
  have cw0 := (d0.cell (p := ⟨k, 0, none⟩) hkw).trans cw
  have cp0 := (d0.cell (p := p) hpw).trans cp
  clear h
  generalize rdN (f (8 + 0)) = x at *
  generalize rdL (f (8 + 0)) = l at *
  go_enter Tryd.func61, Tryd.ntmps61
  go_wp2_with fail
  generalize w.alloc (.cells #[.int .i64 0, .int .i64 0, .int .i64 0] 50) = w0 at *
  refine (SI.out _ cw0 (hR.below d0)).mono ?_
  rintro e w1 ⟨rfl, b1⟩
  replace M := M.below b1
  have d1 := below_step d0 b1
  go_wp2_with (refine wpList_storeM (us := [.int .i64 0, .int .i64 x, .int .i64 l]) rfl rfl rfl rfl M rfl (by intro v hv; simp only [List.mem_cons, List.not_mem_nil, or_false] at hv; rcases hv with rfl | rfl | rfl <;> rfl) sizeSaved17 ?_; intro w6 M6 o6)
  have on := OnlyP.of_only (P := fun y => y = w.heap.size) o6 rfl
  have d6 := d1.trans (on.below (base := w.heap.size) (fun y _ hy => by have h : y = w.heap.size := hy; omega) d1.size)
  have r0 := M6.2.1 0 _ rfl
  have r1 := M6.2.1 1 _ rfl
  have r2 := M6.2.1 2 _ rfl
  exact bodyPost_ret (v := .agg #[.int .i64 0, .int .i64 x, .int .i64 l]) (by simp [results, Tryd.results61, go_sem, r0, r1, r2]) rfl ⟨rfl, d6⟩
set_option maxRecDepth 100000 in
set_option maxHeartbeats 1600000 in
theorem i_new0N (gp : Addr) (p : Addr) (k : Nat) (a : Option Addr) (n c : Nat) (f : Nat → ByteArray) (w : World) (cp : w.cell? p = some (.pointer (some ⟨k, 0, none⟩))) (cw : w.cell? ⟨k, 0, none⟩ = some (.slice a n c)) (hR : RowStr a n f w) (hn : 8 + 0 < n) (hs : (f (8 + 0)).size ≤ 20) (hG : GU gp w) (h : ¬ RdOk (f (8 + 0))) :
    Calls Tryd.prog 61 #[.pointer (some p)] w fun e w' => e = gaveUp gp ∧ Below w.heap.size w w' := by
  have SI := hide (fun w cw R G => i_savedInN gp k a n c f 0 w (by decide) cw R hn hs G h)
  have d0 : Below w.heap.size w (w.alloc (.cells #[.int .i64 0, .int .i64 0, .int .i64 0] 50)) := below_box (Below.refl _ _)
  have hkw := World.block_lt_of_cell? w _ cw
  have hpw : p.block < w.heap.size := World.block_lt_of_cell? w _ cp
  have cw0 := (d0.cell (p := ⟨k, 0, none⟩) hkw).trans cw
  have cp0 := (d0.cell (p := p) hpw).trans cp
  clear h hs
  have hG0 := hG.below d0
  go_enter Tryd.func61, Tryd.ntmps61
  go_wp2_with fail
  generalize w.alloc (.cells #[.int .i64 0, .int .i64 0, .int .i64 0] 50) = w0 at *
  refine (SI.out _ cw0 (hR.below d0) hG0).mono ?_
  rintro e w1 ⟨rfl, b1⟩
  exact ⟨rfl, rfl, below_step d0 b1⟩
set_option maxRecDepth 100000 in
set_option maxHeartbeats 1600000 in
theorem i_new1Y (p : Addr) (k : Nat) (a : Option Addr) (n c : Nat) (f : Nat → ByteArray) (w : World) (cp : w.cell? p = some (.pointer (some ⟨k, 0, none⟩))) (cw : w.cell? ⟨k, 0, none⟩ = some (.slice a n c)) (hR : RowStr a n f w) (hn : 8 + 1 < n) (h : RdOk (f (8 + 1))) :
    Calls Tryd.prog 63 #[.pointer (some p)] w fun e w' => e = .returned (.agg #[.int .i64 1, .int .i64 (rdN (f (8 + 1))), .int .i64 (rdL (f (8 + 1)))]) ∧ Below w.heap.size w w' := by
  have SI := hide (fun w cw R => i_savedInY k a n c f 1 w (by decide) cw R hn h)
  have M := Mut.new w #[.int .i64 0, .int .i64 0, .int .i64 0] 50
  have d0 : Below w.heap.size w (w.alloc (.cells #[.int .i64 0, .int .i64 0, .int .i64 0] 50)) := below_box (Below.refl _ _)
  have hkw := World.block_lt_of_cell? w _ cw
  have hpw : p.block < w.heap.size := World.block_lt_of_cell? w _ cp
  have cw0 := (d0.cell (p := ⟨k, 0, none⟩) hkw).trans cw
  have cp0 := (d0.cell (p := p) hpw).trans cp
  clear h
  generalize rdN (f (8 + 1)) = x at *
  generalize rdL (f (8 + 1)) = l at *
  go_enter Tryd.func63, Tryd.ntmps63
  go_wp2_with fail
  generalize w.alloc (.cells #[.int .i64 0, .int .i64 0, .int .i64 0] 50) = w0 at *
  refine (SI.out _ cw0 (hR.below d0)).mono ?_
  rintro e w1 ⟨rfl, b1⟩
  replace M := M.below b1
  have d1 := below_step d0 b1
  go_wp2_with (refine wpList_storeM (us := [.int .i64 1, .int .i64 x, .int .i64 l]) rfl rfl rfl rfl M rfl (by intro v hv; simp only [List.mem_cons, List.not_mem_nil, or_false] at hv; rcases hv with rfl | rfl | rfl <;> rfl) sizeSaved17 ?_; intro w6 M6 o6)
  have on := OnlyP.of_only (P := fun y => y = w.heap.size) o6 rfl
  have d6 := d1.trans (on.below (base := w.heap.size) (fun y _ hy => by have h : y = w.heap.size := hy; omega) d1.size)
  have r0 := M6.2.1 0 _ rfl
  have r1 := M6.2.1 1 _ rfl
  have r2 := M6.2.1 2 _ rfl
  exact bodyPost_ret (v := .agg #[.int .i64 1, .int .i64 x, .int .i64 l]) (by simp [results, Tryd.results63, go_sem, r0, r1, r2]) rfl ⟨rfl, d6⟩
set_option maxRecDepth 100000 in
set_option maxHeartbeats 1600000 in
theorem i_new1N (gp : Addr) (p : Addr) (k : Nat) (a : Option Addr) (n c : Nat) (f : Nat → ByteArray) (w : World) (cp : w.cell? p = some (.pointer (some ⟨k, 0, none⟩))) (cw : w.cell? ⟨k, 0, none⟩ = some (.slice a n c)) (hR : RowStr a n f w) (hn : 8 + 1 < n) (hs : (f (8 + 1)).size ≤ 20) (hG : GU gp w) (h : ¬ RdOk (f (8 + 1))) :
    Calls Tryd.prog 63 #[.pointer (some p)] w fun e w' => e = gaveUp gp ∧ Below w.heap.size w w' := by
  have SI := hide (fun w cw R G => i_savedInN gp k a n c f 1 w (by decide) cw R hn hs G h)
  have d0 : Below w.heap.size w (w.alloc (.cells #[.int .i64 0, .int .i64 0, .int .i64 0] 50)) := below_box (Below.refl _ _)
  have hkw := World.block_lt_of_cell? w _ cw
  have hpw : p.block < w.heap.size := World.block_lt_of_cell? w _ cp
  have cw0 := (d0.cell (p := ⟨k, 0, none⟩) hkw).trans cw
  have cp0 := (d0.cell (p := p) hpw).trans cp
  clear h hs
  have hG0 := hG.below d0
  go_enter Tryd.func63, Tryd.ntmps63
  go_wp2_with fail
  generalize w.alloc (.cells #[.int .i64 0, .int .i64 0, .int .i64 0] 50) = w0 at *
  refine (SI.out _ cw0 (hR.below d0) hG0).mono ?_
  rintro e w1 ⟨rfl, b1⟩
  exact ⟨rfl, rfl, below_step d0 b1⟩
set_option maxRecDepth 100000 in
set_option maxHeartbeats 1600000 in
theorem i_ansS0_yes (p : Addr) (x1 x2 x3 : Int) (w : World) (h : ∀ w0, Below w.heap.size w w0 → Calls Tryd.prog 61 #[.pointer (some p)] w0 fun e w' => e = .returned (.agg #[.int .i64 x1, .int .i64 x2, .int .i64 x3]) ∧ Below w0.heap.size w0 w') :
    Calls Tryd.prog 60 #[.func (.func 61) #[] #[.pointer (some p)]] w fun e w' => e = .returned (.tuple #[.agg #[.int .i64 x1, .int .i64 x2, .int .i64 x3], .bool true]) ∧ Below w.heap.size w w' := by
  have hmf : ∀ (fn : Fn) (first cap : Array Value) (w : World), (Instr.makeFunc fn first cap).run Tryd.prog w = .ok (.func fn first cap) w := fun _ _ _ _ => rfl
  have MR := Mut.new w #[.int .i64 0, .int .i64 0, .int .i64 0] 50
  have d0 : Below w.heap.size w (w.alloc (.cells #[.int .i64 0, .int .i64 0, .int .i64 0] 50)) := below_box (Below.refl _ _)
  replace h := hide (h _ d0)
  go_enter_defers Tryd.func60, Tryd.ntmps60
  go_wp2_with fail
  generalize w.alloc (.cells #[.int .i64 0, .int .i64 0, .int .i64 0] 50) = w0 at *
  refine h.out.mono ?_
  rintro e w1 ⟨rfl, b1⟩
  replace MR := MR.below b1
  go_wp2_with (first | (refine wpList_storeM (us := [.int .i64 x1, .int .i64 x2, .int .i64 x3]) rfl rfl rfl rfl MR rfl (by intro v hv; simp only [List.mem_cons, List.not_mem_nil, or_false] at hv; rcases hv with rfl | rfl | rfl <;> rfl) sizeSaved17 ?_; intro w4 M4 o4; have r0 := M4.2.1 0 _ rfl; have r1 := M4.2.1 1 _ rfl; have r2 := M4.2.1 2 _ rfl) | (refine wpList_storeM (us := [.int .i64 x1, .int .i64 x2, .int .i64 x3]) rfl rfl rfl rfl M4 rfl (by intro v hv; simp only [List.mem_cons, List.not_mem_nil, or_false] at hv; rcases hv with rfl | rfl | rfl <;> rfl) sizeSaved17 ?_; intro w5 M5 o5; clear r0 r1 r2))
  have on := (OnlyP.of_only (P := fun y => y = w.heap.size) o4 rfl).trans (OnlyP.of_only (P := fun y => y = w.heap.size) o5 rfl)
  have d5 := (below_step d0 b1).trans (on.below (base := w.heap.size) (fun x _ hx => by have h : x = w.heap.size := hx; omega) (below_step d0 b1).size)
  have r0 := M5.2.1 0 _ rfl
  have r1 := M5.2.1 1 _ rfl
  have r2 := M5.2.1 2 _ rfl
  refine leaves_cons (f := 66) (args := #[]) (by simp) (by simp [go_sem]) ?_
  refine (catch_idleV _).mono ?_
  rintro e u' w'' ⟨rfl, rfl, rfl⟩
  simp [Leaves, settle, results, Tryd.results60, go_sem, r0, r1, r2]
  exact d5
set_option maxRecDepth 100000 in
set_option maxHeartbeats 1600000 in
theorem i_ansS0_no (p : Addr) (gp : Addr) (w : World) (hG : GU gp w) (h : ∀ w0, Below w.heap.size w w0 → Calls Tryd.prog 61 #[.pointer (some p)] w0 fun e w' => e = gaveUp gp ∧ Below w0.heap.size w0 w') :
    Calls Tryd.prog 60 #[.func (.func 61) #[] #[.pointer (some p)]] w fun e w' => e = .returned (.tuple #[.agg #[.int .i64 0, .int .i64 0, .int .i64 0], .bool false]) ∧ Below w.heap.size w w' := by
  have hmf : ∀ (fn : Fn) (first cap : Array Value) (w : World), (Instr.makeFunc fn first cap).run Tryd.prog w = .ok (.func fn first cap) w := fun _ _ _ _ => rfl
  have MR := Mut.new w #[.int .i64 0, .int .i64 0, .int .i64 0] 50
  have d0 : Below w.heap.size w (w.alloc (.cells #[.int .i64 0, .int .i64 0, .int .i64 0] 50)) := below_box (Below.refl _ _)
  replace h := hide (h _ d0)
  go_enter_defers Tryd.func60, Tryd.ntmps60
  go_wp2_with fail
  generalize w.alloc (.cells #[.int .i64 0, .int .i64 0, .int .i64 0] 50) = w0 at *
  refine h.out.mono ?_
  rintro e w1 ⟨rfl, b1⟩
  replace MR := MR.below b1
  have d1 := below_step d0 b1
  have r0 := MR.2.1 0 _ rfl
  have r1 := MR.2.1 1 _ rfl
  have r2 := MR.2.1 2 _ rfl
  simp only [gaveUp]
  go_wp2_with fail
  refine leaves_cons (f := 66) (args := #[]) (by simp) (by simp [go_sem]) ?_
  refine (catch_upV gp [] _ (hG.below d1)).mono ?_
  rintro e u' w'' ⟨rfl, rfl, rfl⟩
  simp [Leaves, settle, results, Tryd.results60, go_sem, r0, r1, r2]
  exact d1
set_option maxRecDepth 100000 in
set_option maxHeartbeats 1600000 in
theorem i_ansS1_yes (p : Addr) (x1 x2 x3 : Int) (w : World) (h : ∀ w0, Below w.heap.size w w0 → Calls Tryd.prog 63 #[.pointer (some p)] w0 fun e w' => e = .returned (.agg #[.int .i64 x1, .int .i64 x2, .int .i64 x3]) ∧ Below w0.heap.size w0 w') :
    Calls Tryd.prog 60 #[.func (.func 63) #[] #[.pointer (some p)]] w fun e w' => e = .returned (.tuple #[.agg #[.int .i64 x1, .int .i64 x2, .int .i64 x3], .bool true]) ∧ Below w.heap.size w w' := by
  have hmf : ∀ (fn : Fn) (first cap : Array Value) (w : World), (Instr.makeFunc fn first cap).run Tryd.prog w = .ok (.func fn first cap) w := fun _ _ _ _ => rfl
  have MR := Mut.new w #[.int .i64 0, .int .i64 0, .int .i64 0] 50
  have d0 : Below w.heap.size w (w.alloc (.cells #[.int .i64 0, .int .i64 0, .int .i64 0] 50)) := below_box (Below.refl _ _)
  replace h := hide (h _ d0)
  go_enter_defers Tryd.func60, Tryd.ntmps60
  go_wp2_with fail
  generalize w.alloc (.cells #[.int .i64 0, .int .i64 0, .int .i64 0] 50) = w0 at *
  refine h.out.mono ?_
  rintro e w1 ⟨rfl, b1⟩
  replace MR := MR.below b1
  go_wp2_with (first | (refine wpList_storeM (us := [.int .i64 x1, .int .i64 x2, .int .i64 x3]) rfl rfl rfl rfl MR rfl (by intro v hv; simp only [List.mem_cons, List.not_mem_nil, or_false] at hv; rcases hv with rfl | rfl | rfl <;> rfl) sizeSaved17 ?_; intro w4 M4 o4; have r0 := M4.2.1 0 _ rfl; have r1 := M4.2.1 1 _ rfl; have r2 := M4.2.1 2 _ rfl) | (refine wpList_storeM (us := [.int .i64 x1, .int .i64 x2, .int .i64 x3]) rfl rfl rfl rfl M4 rfl (by intro v hv; simp only [List.mem_cons, List.not_mem_nil, or_false] at hv; rcases hv with rfl | rfl | rfl <;> rfl) sizeSaved17 ?_; intro w5 M5 o5; clear r0 r1 r2))
  have on := (OnlyP.of_only (P := fun y => y = w.heap.size) o4 rfl).trans (OnlyP.of_only (P := fun y => y = w.heap.size) o5 rfl)
  have d5 := (below_step d0 b1).trans (on.below (base := w.heap.size) (fun x _ hx => by have h : x = w.heap.size := hx; omega) (below_step d0 b1).size)
  have r0 := M5.2.1 0 _ rfl
  have r1 := M5.2.1 1 _ rfl
  have r2 := M5.2.1 2 _ rfl
  refine leaves_cons (f := 66) (args := #[]) (by simp) (by simp [go_sem]) ?_
  refine (catch_idleV _).mono ?_
  rintro e u' w'' ⟨rfl, rfl, rfl⟩
  simp [Leaves, settle, results, Tryd.results60, go_sem, r0, r1, r2]
  exact d5
set_option maxRecDepth 100000 in
set_option maxHeartbeats 1600000 in
theorem i_ansS1_no (p : Addr) (gp : Addr) (w : World) (hG : GU gp w) (h : ∀ w0, Below w.heap.size w w0 → Calls Tryd.prog 63 #[.pointer (some p)] w0 fun e w' => e = gaveUp gp ∧ Below w0.heap.size w0 w') :
    Calls Tryd.prog 60 #[.func (.func 63) #[] #[.pointer (some p)]] w fun e w' => e = .returned (.tuple #[.agg #[.int .i64 0, .int .i64 0, .int .i64 0], .bool false]) ∧ Below w.heap.size w w' := by
  have hmf : ∀ (fn : Fn) (first cap : Array Value) (w : World), (Instr.makeFunc fn first cap).run Tryd.prog w = .ok (.func fn first cap) w := fun _ _ _ _ => rfl
  have MR := Mut.new w #[.int .i64 0, .int .i64 0, .int .i64 0] 50
  have d0 : Below w.heap.size w (w.alloc (.cells #[.int .i64 0, .int .i64 0, .int .i64 0] 50)) := below_box (Below.refl _ _)
  replace h := hide (h _ d0)
  go_enter_defers Tryd.func60, Tryd.ntmps60
  go_wp2_with fail
  generalize w.alloc (.cells #[.int .i64 0, .int .i64 0, .int .i64 0] 50) = w0 at *
  refine h.out.mono ?_
  rintro e w1 ⟨rfl, b1⟩
  replace MR := MR.below b1
  have d1 := below_step d0 b1
  have r0 := MR.2.1 0 _ rfl
  have r1 := MR.2.1 1 _ rfl
  have r2 := MR.2.1 2 _ rfl
  simp only [gaveUp]
  go_wp2_with fail
  refine leaves_cons (f := 66) (args := #[]) (by simp) (by simp [go_sem]) ?_
  refine (catch_upV gp [] _ (hG.below d1)).mono ?_
  rintro e u' w'' ⟨rfl, rfl, rfl⟩
  simp [Leaves, settle, results, Tryd.results60, go_sem, r0, r1, r2]
  exact d1
set_option maxRecDepth 100000 in
set_option maxHeartbeats 1600000 in
theorem i_newestTT1 (k : Nat) (a1 b1 c1 a2 b2 c2 : Int) (w : World) (A1 : ∀ pp w0, Below w.heap.size w w0 → w0.cell? pp = some (.pointer (some ⟨k, 0, none⟩)) → Calls Tryd.prog 60 #[.func (.func 61) #[] #[.pointer (some pp)]] w0 fun e w' => e = .returned (.tuple #[.agg #[.int .i64 a1, .int .i64 b1, .int .i64 c1], .bool true]) ∧ Below w0.heap.size w0 w') (A2 : ∀ pp w0, Below w.heap.size w w0 → w0.cell? pp = some (.pointer (some ⟨k, 0, none⟩)) → Calls Tryd.prog 60 #[.func (.func 63) #[] #[.pointer (some pp)]] w0 fun e w' => e = .returned (.tuple #[.agg #[.int .i64 a2, .int .i64 b2, .int .i64 c2], .bool true]) ∧ Below w0.heap.size w0 w') (hb2 : ¬ (b2 > b1)) :
    Calls Tryd.prog 51 #[.pointer (some ⟨k, 0, none⟩)] w fun e w' => e = .returned (.agg #[.int .i64 a1, .int .i64 b1, .int .i64 c1]) ∧ Below w.heap.size w w' := by
  have MY := hide (fun w => i_mustY w)
  have hmf : ∀ (fn : Fn) (first cap : Array Value) (w : World), (Instr.makeFunc fn first cap).run Tryd.prog w = .ok (.func fn first cap) w := fun _ _ _ _ => rfl
  have MP := (Mut.new w #[.pointer (some ⟨k, 0, none⟩)] 79).alloc (.cells #[.int .i64 0, .int .i64 0, .int .i64 0] 50)
  have MR := Mut.new (w.alloc (.cells #[.pointer (some ⟨k, 0, none⟩)] 79)) #[.int .i64 0, .int .i64 0, .int .i64 0] 50
  have d0 : Below w.heap.size w ((w.alloc (.cells #[.pointer (some ⟨k, 0, none⟩)] 79)).alloc (.cells #[.int .i64 0, .int .i64 0, .int .i64 0] 50)) := below_box2 (Below.refl _ _)
  have hzW : ((w.alloc (.cells #[.pointer (some ⟨k, 0, none⟩)] 79)).alloc (.cells #[.int .i64 0, .int .i64 0, .int .i64 0] 50)).heap.size = w.heap.size + 2 := by simp
  simp only [World.size_alloc] at MR
  have cp := MP.2.1 0 _ rfl
  replace A1 := hide A1
  replace A2 := hide A2
  go_enter Tryd.func51, Tryd.ntmps51
  go_wp2_with fail
  generalize ((w.alloc (.cells #[.pointer (some ⟨k, 0, none⟩)] 79)).alloc (.cells #[.int .i64 0, .int .i64 0, .int .i64 0] 50)) = w0 at *
  have hw0 : w.heap.size + 1 < w0.heap.size := MR.1
  clear hzW
  refine (A1.out ⟨w.heap.size, 0, none⟩ w0 d0 cp).mono ?_
  rintro e w1 ⟨rfl, u1⟩
  replace MP := MP.below u1
  replace MR := MR.below u1
  have d1 := below_step d0 u1
  have hw1 := MR.1
  clear u1 cp d0 A1 hw0
  have N1 := Mut.new w1 #[.int .i64 a1, .int .i64 b1, .int .i64 c1] 50
  have u2 : Below w1.heap.size w1 (w1.alloc (.cells #[.int .i64 a1, .int .i64 b1, .int .i64 c1] 50)) := below_box (Below.refl _ _)
  replace MP := MP.below u2
  replace MR := MR.below u2
  have d2 := below_step d1 u2
  have cp := MP.2.1 0 _ rfl
  clear u2 d1
  go_wp2_with fail
  generalize w1.alloc (.cells #[.int .i64 a1, .int .i64 b1, .int .i64 c1] 50) = w2 at *
  generalize w1.heap.size = k1 at *
  refine (A2.out ⟨w.heap.size, 0, none⟩ w2 d2 cp).mono ?_
  rintro e w3 ⟨rfl, u3⟩
  replace MR := MR.below u3
  replace N1 := N1.below u3
  have d3 := below_step d2 u3
  have hw3 := N1.1
  clear u3 cp d2 A2 MP
  have N2 := Mut.new w3 #[.int .i64 a2, .int .i64 b2, .int .i64 c2] 50
  have u4 : Below w3.heap.size w3 (w3.alloc (.cells #[.int .i64 a2, .int .i64 b2, .int .i64 c2] 50)) := below_box (Below.refl _ _)
  replace MR := MR.below u4
  replace N1 := N1.below u4
  have d4 := below_step d3 u4
  clear u4 d3
  go_wp2_with fail
  generalize w3.alloc (.cells #[.int .i64 a2, .int .i64 b2, .int .i64 c2] 50) = w4 at *
  generalize w3.heap.size = k3 at *
  refine (MY.out _).mono ?_
  rintro e w4 ⟨rfl, rfl⟩
  have n0 := N1.2.1 0 _ rfl
  have n2 := N1.2.1 2 _ rfl
  have n1 := N1.2.1 1 _ rfl
  have m1 := N2.2.1 1 _ rfl
  go_wp2_with (refine wpList_storeM (us := [.int .i64 a1, .int .i64 b1, .int .i64 c1]) rfl rfl rfl rfl MR rfl (by intro v hv; simp only [List.mem_cons, List.not_mem_nil, or_false] at hv; rcases hv with rfl | rfl | rfl <;> rfl) sizeSaved17 ?_; intro w6 M6 o6)
  have on := OnlyP.of_only (P := fun y => y = w.heap.size + 1) o6 rfl
  have d6 := d4.trans (on.below (base := w.heap.size) (fun y _ hy => by have h : y = w.heap.size + 1 := hy; omega) d4.size)
  have r0 := M6.2.1 0 _ rfl
  have r1 := M6.2.1 1 _ rfl
  have r2 := M6.2.1 2 _ rfl
  exact bodyPost_ret (v := .agg #[.int .i64 a1, .int .i64 b1, .int .i64 c1]) (by simp [results, Tryd.results51, go_sem, r0, r1, r2]) rfl ⟨rfl, d6⟩
set_option maxRecDepth 100000 in
set_option maxHeartbeats 1600000 in
theorem i_newestTT2 (k : Nat) (a1 b1 c1 a2 b2 c2 : Int) (w : World) (A1 : ∀ pp w0, Below w.heap.size w w0 → w0.cell? pp = some (.pointer (some ⟨k, 0, none⟩)) → Calls Tryd.prog 60 #[.func (.func 61) #[] #[.pointer (some pp)]] w0 fun e w' => e = .returned (.tuple #[.agg #[.int .i64 a1, .int .i64 b1, .int .i64 c1], .bool true]) ∧ Below w0.heap.size w0 w') (A2 : ∀ pp w0, Below w.heap.size w w0 → w0.cell? pp = some (.pointer (some ⟨k, 0, none⟩)) → Calls Tryd.prog 60 #[.func (.func 63) #[] #[.pointer (some pp)]] w0 fun e w' => e = .returned (.tuple #[.agg #[.int .i64 a2, .int .i64 b2, .int .i64 c2], .bool true]) ∧ Below w0.heap.size w0 w') (hb : b2 > b1) :
    Calls Tryd.prog 51 #[.pointer (some ⟨k, 0, none⟩)] w fun e w' => e = .returned (.agg #[.int .i64 a2, .int .i64 b2, .int .i64 c2]) ∧ Below w.heap.size w w' := by
  have MY := hide (fun w => i_mustY w)
  have hmf : ∀ (fn : Fn) (first cap : Array Value) (w : World), (Instr.makeFunc fn first cap).run Tryd.prog w = .ok (.func fn first cap) w := fun _ _ _ _ => rfl
  have MP := (Mut.new w #[.pointer (some ⟨k, 0, none⟩)] 79).alloc (.cells #[.int .i64 0, .int .i64 0, .int .i64 0] 50)
  have MR := Mut.new (w.alloc (.cells #[.pointer (some ⟨k, 0, none⟩)] 79)) #[.int .i64 0, .int .i64 0, .int .i64 0] 50
  have d0 : Below w.heap.size w ((w.alloc (.cells #[.pointer (some ⟨k, 0, none⟩)] 79)).alloc (.cells #[.int .i64 0, .int .i64 0, .int .i64 0] 50)) := below_box2 (Below.refl _ _)
  have hzW : ((w.alloc (.cells #[.pointer (some ⟨k, 0, none⟩)] 79)).alloc (.cells #[.int .i64 0, .int .i64 0, .int .i64 0] 50)).heap.size = w.heap.size + 2 := by simp
  simp only [World.size_alloc] at MR
  have cp := MP.2.1 0 _ rfl
  replace A1 := hide A1
  replace A2 := hide A2
  go_enter Tryd.func51, Tryd.ntmps51
  go_wp2_with fail
  generalize ((w.alloc (.cells #[.pointer (some ⟨k, 0, none⟩)] 79)).alloc (.cells #[.int .i64 0, .int .i64 0, .int .i64 0] 50)) = w0 at *
  have hw0 : w.heap.size + 1 < w0.heap.size := MR.1
  clear hzW
  refine (A1.out ⟨w.heap.size, 0, none⟩ w0 d0 cp).mono ?_
  rintro e w1 ⟨rfl, u1⟩
  replace MP := MP.below u1
  replace MR := MR.below u1
  have d1 := below_step d0 u1
  have hw1 := MR.1
  clear u1 cp d0 A1 hw0
  have N1 := Mut.new w1 #[.int .i64 a1, .int .i64 b1, .int .i64 c1] 50
  have u2 : Below w1.heap.size w1 (w1.alloc (.cells #[.int .i64 a1, .int .i64 b1, .int .i64 c1] 50)) := below_box (Below.refl _ _)
  replace MP := MP.below u2
  replace MR := MR.below u2
  have d2 := below_step d1 u2
  have cp := MP.2.1 0 _ rfl
  clear u2 d1
  go_wp2_with fail
  generalize w1.alloc (.cells #[.int .i64 a1, .int .i64 b1, .int .i64 c1] 50) = w2 at *
  generalize w1.heap.size = k1 at *
  refine (A2.out ⟨w.heap.size, 0, none⟩ w2 d2 cp).mono ?_
  rintro e w3 ⟨rfl, u3⟩
  replace MR := MR.below u3
  replace N1 := N1.below u3
  have d3 := below_step d2 u3
  have hw3 := N1.1
  clear u3 cp d2 A2 MP
  have N2 := Mut.new w3 #[.int .i64 a2, .int .i64 b2, .int .i64 c2] 50
  have u4 : Below w3.heap.size w3 (w3.alloc (.cells #[.int .i64 a2, .int .i64 b2, .int .i64 c2] 50)) := below_box (Below.refl _ _)
  replace MR := MR.below u4
  replace N1 := N1.below u4
  have d4 := below_step d3 u4
  clear u4 d3
  go_wp2_with fail
  generalize w3.alloc (.cells #[.int .i64 a2, .int .i64 b2, .int .i64 c2] 50) = w4 at *
  generalize w3.heap.size = k3 at *
  refine (MY.out _).mono ?_
  rintro e w4 ⟨rfl, rfl⟩
  have n0 := N2.2.1 0 _ rfl
  have n2 := N2.2.1 2 _ rfl
  have n1 := N1.2.1 1 _ rfl
  have m1 := N2.2.1 1 _ rfl
  go_wp2_with (refine wpList_storeM (us := [.int .i64 a2, .int .i64 b2, .int .i64 c2]) rfl rfl rfl rfl MR rfl (by intro v hv; simp only [List.mem_cons, List.not_mem_nil, or_false] at hv; rcases hv with rfl | rfl | rfl <;> rfl) sizeSaved17 ?_; intro w6 M6 o6)
  have on := OnlyP.of_only (P := fun y => y = w.heap.size + 1) o6 rfl
  have d6 := d4.trans (on.below (base := w.heap.size) (fun y _ hy => by have h : y = w.heap.size + 1 := hy; omega) d4.size)
  have r0 := M6.2.1 0 _ rfl
  have r1 := M6.2.1 1 _ rfl
  have r2 := M6.2.1 2 _ rfl
  exact bodyPost_ret (v := .agg #[.int .i64 a2, .int .i64 b2, .int .i64 c2]) (by simp [results, Tryd.results51, go_sem, r0, r1, r2]) rfl ⟨rfl, d6⟩
set_option maxRecDepth 100000 in
set_option maxHeartbeats 1600000 in
theorem i_newestTF (k : Nat) (a1 b1 c1 a2 b2 c2 : Int) (w : World) (A1 : ∀ pp w0, Below w.heap.size w w0 → w0.cell? pp = some (.pointer (some ⟨k, 0, none⟩)) → Calls Tryd.prog 60 #[.func (.func 61) #[] #[.pointer (some pp)]] w0 fun e w' => e = .returned (.tuple #[.agg #[.int .i64 a1, .int .i64 b1, .int .i64 c1], .bool true]) ∧ Below w0.heap.size w0 w') (A2 : ∀ pp w0, Below w.heap.size w w0 → w0.cell? pp = some (.pointer (some ⟨k, 0, none⟩)) → Calls Tryd.prog 60 #[.func (.func 63) #[] #[.pointer (some pp)]] w0 fun e w' => e = .returned (.tuple #[.agg #[.int .i64 a2, .int .i64 b2, .int .i64 c2], .bool false]) ∧ Below w0.heap.size w0 w') :
    Calls Tryd.prog 51 #[.pointer (some ⟨k, 0, none⟩)] w fun e w' => e = .returned (.agg #[.int .i64 a1, .int .i64 b1, .int .i64 c1]) ∧ Below w.heap.size w w' := by
  have MY := hide (fun w => i_mustY w)
  have hmf : ∀ (fn : Fn) (first cap : Array Value) (w : World), (Instr.makeFunc fn first cap).run Tryd.prog w = .ok (.func fn first cap) w := fun _ _ _ _ => rfl
  have MP := (Mut.new w #[.pointer (some ⟨k, 0, none⟩)] 79).alloc (.cells #[.int .i64 0, .int .i64 0, .int .i64 0] 50)
  have MR := Mut.new (w.alloc (.cells #[.pointer (some ⟨k, 0, none⟩)] 79)) #[.int .i64 0, .int .i64 0, .int .i64 0] 50
  have d0 : Below w.heap.size w ((w.alloc (.cells #[.pointer (some ⟨k, 0, none⟩)] 79)).alloc (.cells #[.int .i64 0, .int .i64 0, .int .i64 0] 50)) := below_box2 (Below.refl _ _)
  have hzW : ((w.alloc (.cells #[.pointer (some ⟨k, 0, none⟩)] 79)).alloc (.cells #[.int .i64 0, .int .i64 0, .int .i64 0] 50)).heap.size = w.heap.size + 2 := by simp
  simp only [World.size_alloc] at MR
  have cp := MP.2.1 0 _ rfl
  replace A1 := hide A1
  replace A2 := hide A2
  go_enter Tryd.func51, Tryd.ntmps51
  go_wp2_with fail
  generalize ((w.alloc (.cells #[.pointer (some ⟨k, 0, none⟩)] 79)).alloc (.cells #[.int .i64 0, .int .i64 0, .int .i64 0] 50)) = w0 at *
  have hw0 : w.heap.size + 1 < w0.heap.size := MR.1
  clear hzW
  refine (A1.out ⟨w.heap.size, 0, none⟩ w0 d0 cp).mono ?_
  rintro e w1 ⟨rfl, u1⟩
  replace MP := MP.below u1
  replace MR := MR.below u1
  have d1 := below_step d0 u1
  have hw1 := MR.1
  clear u1 cp d0 A1 hw0
  have N1 := Mut.new w1 #[.int .i64 a1, .int .i64 b1, .int .i64 c1] 50
  have u2 : Below w1.heap.size w1 (w1.alloc (.cells #[.int .i64 a1, .int .i64 b1, .int .i64 c1] 50)) := below_box (Below.refl _ _)
  replace MP := MP.below u2
  replace MR := MR.below u2
  have d2 := below_step d1 u2
  have cp := MP.2.1 0 _ rfl
  clear u2 d1
  go_wp2_with fail
  generalize w1.alloc (.cells #[.int .i64 a1, .int .i64 b1, .int .i64 c1] 50) = w2 at *
  generalize w1.heap.size = k1 at *
  refine (A2.out ⟨w.heap.size, 0, none⟩ w2 d2 cp).mono ?_
  rintro e w3 ⟨rfl, u3⟩
  replace MR := MR.below u3
  replace N1 := N1.below u3
  have d3 := below_step d2 u3
  have hw3 := N1.1
  clear u3 cp d2 A2 MP
  have N2 := Mut.new w3 #[.int .i64 a2, .int .i64 b2, .int .i64 c2] 50
  have u4 : Below w3.heap.size w3 (w3.alloc (.cells #[.int .i64 a2, .int .i64 b2, .int .i64 c2] 50)) := below_box (Below.refl _ _)
  replace MR := MR.below u4
  replace N1 := N1.below u4
  have d4 := below_step d3 u4
  clear u4 d3
  go_wp2_with fail
  generalize w3.alloc (.cells #[.int .i64 a2, .int .i64 b2, .int .i64 c2] 50) = w4 at *
  generalize w3.heap.size = k3 at *
  refine (MY.out _).mono ?_
  rintro e w4 ⟨rfl, rfl⟩
  have n0 := N1.2.1 0 _ rfl
  have n2 := N1.2.1 2 _ rfl
  have n1 := N1.2.1 1 _ rfl
  have m1 := N2.2.1 1 _ rfl
  go_wp2_with (refine wpList_storeM (us := [.int .i64 a1, .int .i64 b1, .int .i64 c1]) rfl rfl rfl rfl MR rfl (by intro v hv; simp only [List.mem_cons, List.not_mem_nil, or_false] at hv; rcases hv with rfl | rfl | rfl <;> rfl) sizeSaved17 ?_; intro w6 M6 o6)
  have on := OnlyP.of_only (P := fun y => y = w.heap.size + 1) o6 rfl
  have d6 := d4.trans (on.below (base := w.heap.size) (fun y _ hy => by have h : y = w.heap.size + 1 := hy; omega) d4.size)
  have r0 := M6.2.1 0 _ rfl
  have r1 := M6.2.1 1 _ rfl
  have r2 := M6.2.1 2 _ rfl
  exact bodyPost_ret (v := .agg #[.int .i64 a1, .int .i64 b1, .int .i64 c1]) (by simp [results, Tryd.results51, go_sem, r0, r1, r2]) rfl ⟨rfl, d6⟩
set_option maxRecDepth 100000 in
set_option maxHeartbeats 1600000 in
theorem i_newestFT (k : Nat) (a1 b1 c1 a2 b2 c2 : Int) (w : World) (A1 : ∀ pp w0, Below w.heap.size w w0 → w0.cell? pp = some (.pointer (some ⟨k, 0, none⟩)) → Calls Tryd.prog 60 #[.func (.func 61) #[] #[.pointer (some pp)]] w0 fun e w' => e = .returned (.tuple #[.agg #[.int .i64 a1, .int .i64 b1, .int .i64 c1], .bool false]) ∧ Below w0.heap.size w0 w') (A2 : ∀ pp w0, Below w.heap.size w w0 → w0.cell? pp = some (.pointer (some ⟨k, 0, none⟩)) → Calls Tryd.prog 60 #[.func (.func 63) #[] #[.pointer (some pp)]] w0 fun e w' => e = .returned (.tuple #[.agg #[.int .i64 a2, .int .i64 b2, .int .i64 c2], .bool true]) ∧ Below w0.heap.size w0 w') :
    Calls Tryd.prog 51 #[.pointer (some ⟨k, 0, none⟩)] w fun e w' => e = .returned (.agg #[.int .i64 a2, .int .i64 b2, .int .i64 c2]) ∧ Below w.heap.size w w' := by
  have MY := hide (fun w => i_mustY w)
  have hmf : ∀ (fn : Fn) (first cap : Array Value) (w : World), (Instr.makeFunc fn first cap).run Tryd.prog w = .ok (.func fn first cap) w := fun _ _ _ _ => rfl
  have MP := (Mut.new w #[.pointer (some ⟨k, 0, none⟩)] 79).alloc (.cells #[.int .i64 0, .int .i64 0, .int .i64 0] 50)
  have MR := Mut.new (w.alloc (.cells #[.pointer (some ⟨k, 0, none⟩)] 79)) #[.int .i64 0, .int .i64 0, .int .i64 0] 50
  have d0 : Below w.heap.size w ((w.alloc (.cells #[.pointer (some ⟨k, 0, none⟩)] 79)).alloc (.cells #[.int .i64 0, .int .i64 0, .int .i64 0] 50)) := below_box2 (Below.refl _ _)
  have hzW : ((w.alloc (.cells #[.pointer (some ⟨k, 0, none⟩)] 79)).alloc (.cells #[.int .i64 0, .int .i64 0, .int .i64 0] 50)).heap.size = w.heap.size + 2 := by simp
  simp only [World.size_alloc] at MR
  have cp := MP.2.1 0 _ rfl
  replace A1 := hide A1
  replace A2 := hide A2
  go_enter Tryd.func51, Tryd.ntmps51
  go_wp2_with fail
  generalize ((w.alloc (.cells #[.pointer (some ⟨k, 0, none⟩)] 79)).alloc (.cells #[.int .i64 0, .int .i64 0, .int .i64 0] 50)) = w0 at *
  have hw0 : w.heap.size + 1 < w0.heap.size := MR.1
  clear hzW
  refine (A1.out ⟨w.heap.size, 0, none⟩ w0 d0 cp).mono ?_
  rintro e w1 ⟨rfl, u1⟩
  replace MP := MP.below u1
  replace MR := MR.below u1
  have d1 := below_step d0 u1
  have hw1 := MR.1
  clear u1 cp d0 A1 hw0
  have N1 := Mut.new w1 #[.int .i64 a1, .int .i64 b1, .int .i64 c1] 50
  have u2 : Below w1.heap.size w1 (w1.alloc (.cells #[.int .i64 a1, .int .i64 b1, .int .i64 c1] 50)) := below_box (Below.refl _ _)
  replace MP := MP.below u2
  replace MR := MR.below u2
  have d2 := below_step d1 u2
  have cp := MP.2.1 0 _ rfl
  clear u2 d1
  go_wp2_with fail
  generalize w1.alloc (.cells #[.int .i64 a1, .int .i64 b1, .int .i64 c1] 50) = w2 at *
  generalize w1.heap.size = k1 at *
  refine (A2.out ⟨w.heap.size, 0, none⟩ w2 d2 cp).mono ?_
  rintro e w3 ⟨rfl, u3⟩
  replace MR := MR.below u3
  replace N1 := N1.below u3
  have d3 := below_step d2 u3
  have hw3 := N1.1
  clear u3 cp d2 A2 MP
  have N2 := Mut.new w3 #[.int .i64 a2, .int .i64 b2, .int .i64 c2] 50
  have u4 : Below w3.heap.size w3 (w3.alloc (.cells #[.int .i64 a2, .int .i64 b2, .int .i64 c2] 50)) := below_box (Below.refl _ _)
  replace MR := MR.below u4
  replace N1 := N1.below u4
  have d4 := below_step d3 u4
  clear u4 d3
  go_wp2_with fail
  generalize w3.alloc (.cells #[.int .i64 a2, .int .i64 b2, .int .i64 c2] 50) = w4 at *
  generalize w3.heap.size = k3 at *
  refine (MY.out _).mono ?_
  rintro e w4 ⟨rfl, rfl⟩
  have n0 := N2.2.1 0 _ rfl
  have n2 := N2.2.1 2 _ rfl
  have n1 := N1.2.1 1 _ rfl
  have m1 := N2.2.1 1 _ rfl
  go_wp2_with (refine wpList_storeM (us := [.int .i64 a2, .int .i64 b2, .int .i64 c2]) rfl rfl rfl rfl MR rfl (by intro v hv; simp only [List.mem_cons, List.not_mem_nil, or_false] at hv; rcases hv with rfl | rfl | rfl <;> rfl) sizeSaved17 ?_; intro w6 M6 o6)
  have on := OnlyP.of_only (P := fun y => y = w.heap.size + 1) o6 rfl
  have d6 := d4.trans (on.below (base := w.heap.size) (fun y _ hy => by have h : y = w.heap.size + 1 := hy; omega) d4.size)
  have r0 := M6.2.1 0 _ rfl
  have r1 := M6.2.1 1 _ rfl
  have r2 := M6.2.1 2 _ rfl
  exact bodyPost_ret (v := .agg #[.int .i64 a2, .int .i64 b2, .int .i64 c2]) (by simp [results, Tryd.results51, go_sem, r0, r1, r2]) rfl ⟨rfl, d6⟩
set_option maxRecDepth 100000 in
set_option maxHeartbeats 1600000 in
theorem i_newestFF (gp : Addr) (k : Nat) (a1 b1 c1 a2 b2 c2 : Int) (w : World) (hG : GU gp w) (A1 : ∀ pp w0, Below w.heap.size w w0 → w0.cell? pp = some (.pointer (some ⟨k, 0, none⟩)) → Calls Tryd.prog 60 #[.func (.func 61) #[] #[.pointer (some pp)]] w0 fun e w' => e = .returned (.tuple #[.agg #[.int .i64 a1, .int .i64 b1, .int .i64 c1], .bool false]) ∧ Below w0.heap.size w0 w') (A2 : ∀ pp w0, Below w.heap.size w w0 → w0.cell? pp = some (.pointer (some ⟨k, 0, none⟩)) → Calls Tryd.prog 60 #[.func (.func 63) #[] #[.pointer (some pp)]] w0 fun e w' => e = .returned (.tuple #[.agg #[.int .i64 a2, .int .i64 b2, .int .i64 c2], .bool false]) ∧ Below w0.heap.size w0 w') :
    Calls Tryd.prog 51 #[.pointer (some ⟨k, 0, none⟩)] w fun e w' => e = gaveUp gp ∧ Below w.heap.size w w' := by
  have MN := hide (fun w (h : GU gp w) => i_mustN gp w h)
  have hmf : ∀ (fn : Fn) (first cap : Array Value) (w : World), (Instr.makeFunc fn first cap).run Tryd.prog w = .ok (.func fn first cap) w := fun _ _ _ _ => rfl
  have MP := (Mut.new w #[.pointer (some ⟨k, 0, none⟩)] 79).alloc (.cells #[.int .i64 0, .int .i64 0, .int .i64 0] 50)
  have MR := Mut.new (w.alloc (.cells #[.pointer (some ⟨k, 0, none⟩)] 79)) #[.int .i64 0, .int .i64 0, .int .i64 0] 50
  have d0 : Below w.heap.size w ((w.alloc (.cells #[.pointer (some ⟨k, 0, none⟩)] 79)).alloc (.cells #[.int .i64 0, .int .i64 0, .int .i64 0] 50)) := below_box2 (Below.refl _ _)
  have hzW : ((w.alloc (.cells #[.pointer (some ⟨k, 0, none⟩)] 79)).alloc (.cells #[.int .i64 0, .int .i64 0, .int .i64 0] 50)).heap.size = w.heap.size + 2 := by simp
  simp only [World.size_alloc] at MR
  have cp := MP.2.1 0 _ rfl
  replace A1 := hide A1
  replace A2 := hide A2
  go_enter Tryd.func51, Tryd.ntmps51
  go_wp2_with fail
  generalize ((w.alloc (.cells #[.pointer (some ⟨k, 0, none⟩)] 79)).alloc (.cells #[.int .i64 0, .int .i64 0, .int .i64 0] 50)) = w0 at *
  have hw0 : w.heap.size + 1 < w0.heap.size := MR.1
  clear hzW
  refine (A1.out ⟨w.heap.size, 0, none⟩ w0 d0 cp).mono ?_
  rintro e w1 ⟨rfl, u1⟩
  replace MP := MP.below u1
  replace MR := MR.below u1
  have d1 := below_step d0 u1
  have hw1 := MR.1
  clear u1 cp d0 A1 hw0
  have N1 := Mut.new w1 #[.int .i64 a1, .int .i64 b1, .int .i64 c1] 50
  have u2 : Below w1.heap.size w1 (w1.alloc (.cells #[.int .i64 a1, .int .i64 b1, .int .i64 c1] 50)) := below_box (Below.refl _ _)
  replace MP := MP.below u2
  replace MR := MR.below u2
  have d2 := below_step d1 u2
  have cp := MP.2.1 0 _ rfl
  clear u2 d1
  go_wp2_with fail
  generalize w1.alloc (.cells #[.int .i64 a1, .int .i64 b1, .int .i64 c1] 50) = w2 at *
  generalize w1.heap.size = k1 at *
  refine (A2.out ⟨w.heap.size, 0, none⟩ w2 d2 cp).mono ?_
  rintro e w3 ⟨rfl, u3⟩
  replace MR := MR.below u3
  replace N1 := N1.below u3
  have d3 := below_step d2 u3
  have hw3 := N1.1
  clear u3 cp d2 A2 MP
  have N2 := Mut.new w3 #[.int .i64 a2, .int .i64 b2, .int .i64 c2] 50
  have u4 : Below w3.heap.size w3 (w3.alloc (.cells #[.int .i64 a2, .int .i64 b2, .int .i64 c2] 50)) := below_box (Below.refl _ _)
  replace MR := MR.below u4
  replace N1 := N1.below u4
  have d4 := below_step d3 u4
  clear u4 d3
  go_wp2_with fail
  generalize w3.alloc (.cells #[.int .i64 a2, .int .i64 b2, .int .i64 c2] 50) = w4 at *
  generalize w3.heap.size = k3 at *
  refine (MN.out _ (hG.below d4)).mono ?_
  rintro e w5 ⟨rfl, rfl⟩
  exact ⟨rfl, rfl, d4⟩
end Go.Proofs.YtnpnhdaehddnmaaDoor
