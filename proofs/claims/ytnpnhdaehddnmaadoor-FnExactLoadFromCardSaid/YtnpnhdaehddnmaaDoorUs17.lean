/- Unseal of the program: what gives up is caught. -/
import Derived.Test.YtnpnhdaehddnmaaDoorUp17
import Derived.Test.YtnpnhdaehddnmaaDoorSum17
import Derived.Test.YtnpnhdaehddnmaaDoorPlain17u
import Derived.Deep.DeepCutAuto
import Derived.Deep.RegionHeld3
namespace Go.Proofs.YtnpnhdaehddnmaaDoor
open Go.RowKit

set_option maxRecDepth 100000 in
set_option maxHeartbeats 1600000 in
theorem i_unsealedY (s : ByteArray) (w : World) (hs : s.size ≤ 1048577) (hU : UsOk s) :
    Calls Tryd.prog 40 #[.string s] w fun e w' => e = .returned (.string (preB s)) ∧ Below w.heap.size w w' := by
  have MY := hide (fun w => i_mustY w)
  have SM := hide (fun w => i_sumOf (preB s) w (by rw [preB_size]; omega))
  have hp : 0 < s.size := hU.1
  have hlt : s.size - 1 < s.size := by omega
  have hby := by17_at hlt
  have hne : s.toList.isEmpty = false := by rw [empty17]; exact decide_eq_false (by omega)
  have hnn : (s.size : Int) - 1 = ((s.size - 1 : Nat) : Int) := by omega
  have hpre : s.extract 0 (s.size - 1) = preB s := rfl
  rw [preB_size] at SM
  have hb := hU.2
  rw [← hb, hby] at SM
  generalize hch : ((s[s.size - 1]'hlt).toNat : Int) = ch at *
  generalize preB s = pre at *
  go_enter Tryd.func40, Tryd.ntmps40
  go_wp2_with fail
  refine (MY.out _).mono ?_
  rintro e w1 ⟨rfl, rfl⟩
  go_upto_region 3 with fail
  refine wp_region_held_drew (S := fun _ => True) (by kernel_rfl) trivial (fun hHeld => ?_)
  refine wpAnyH_take (i := 0) (v := .string s) rfl (by kernel_rfl) (by kernel_rfl) (by kernel_rfl) (fun _ _ _ h => h) (Or.inl ⟨by rfl, fun w' hSw => by go_simp⟩) hHeld ?_
  simp only [List.getElem_toArray, List.getElem_cons_zero, Act.put, List.setIfInBounds_toArray, List.set_cons_zero, List.set_cons_succ]
  refine wpAnyH_take (i := 1) (v := .int .i64 ((s.size : Int) - 1)) rfl (by kernel_rfl) (by kernel_rfl) (by kernel_rfl) (fun _ _ _ h => h) (Or.inl ⟨by rfl, fun w' hSw => by go_simp⟩) hHeld ?_
  simp only [List.getElem_toArray, List.getElem_cons_succ, List.getElem_cons_zero, Act.put, List.setIfInBounds_toArray, List.set_cons_zero, List.set_cons_succ]
  refine wpAnyH_take (i := 2) (v := .int .u8 ch) rfl (by kernel_rfl) (by kernel_rfl) (by kernel_rfl) (fun _ _ _ h => h) (Or.inl ⟨by rfl, fun w' hSw => by rw [← hch]; go_simp⟩) hHeld ?_
  simp only [List.getElem_toArray, List.getElem_cons_succ, List.getElem_cons_zero, Act.put, List.setIfInBounds_toArray, List.set_cons_zero, List.set_cons_succ]
  refine wpAnyH_take (i := 3) (v := .string s) rfl (by kernel_rfl) (by kernel_rfl) (by kernel_rfl) (fun _ _ _ h => h) (Or.inl ⟨by rfl, fun w' hSw => by go_simp⟩) hHeld ?_
  simp only [List.getElem_toArray, List.getElem_cons_succ, List.getElem_cons_zero, Act.put, List.setIfInBounds_toArray, List.set_cons_zero, List.set_cons_succ]
  refine wpAnyH_take (i := 4) (v := .int .i64 ((s.size : Int) - 1)) rfl (by kernel_rfl) (by kernel_rfl) (by kernel_rfl) (fun _ _ _ h => h) (Or.inl ⟨by rfl, fun w' hSw => by go_simp⟩) hHeld ?_
  simp only [List.getElem_toArray, List.getElem_cons_succ, List.getElem_cons_zero, Act.put, List.setIfInBounds_toArray, List.set_cons_zero, List.set_cons_succ]
  refine wpAnyH_take (i := 5) (v := .string pre) rfl (by kernel_rfl) (by kernel_rfl) (by kernel_rfl) (fun _ _ _ h => h) (Or.inl ⟨by rfl, fun w' hSw => by rw [← hpre]; go_simp⟩) hHeld ?_
  simp only [List.getElem_toArray, List.getElem_cons_succ, List.getElem_cons_zero, Act.put, List.setIfInBounds_toArray, List.set_cons_zero, List.set_cons_succ]
  refine wpAnyH_ready (rs := [6]) (by kernel_rfl) (by simp) (AllReadyH.cons rfl (fun K hK => ?_) AllReadyH.nil)
  go_simp
  refine (SM.out _).mono ?_
  rintro e w2 ⟨rfl, b2⟩
  have f2 := (Below.refl w1.heap.size w1).drew.trans b2
  refine hK.out _ _ trivial (fun hHeld => ?_)
  clear hK K
  refine wpAnyH_take (i := 7) (v := .bool true) rfl (by kernel_rfl) (by kernel_rfl) (by kernel_rfl) (fun _ _ _ h => h) (Or.inl ⟨by rfl, fun w' hSw => by go_simp⟩) hHeld ?_
  simp only [List.getElem_toArray, List.getElem_cons_succ, List.getElem_cons_zero, Act.put, List.setIfInBounds_toArray, List.set_cons_zero, List.set_cons_succ]
  refine wpAnyH_ready (rs := [8]) (by kernel_rfl) (by simp) (AllReadyH.cons rfl (fun K hK => ?_) AllReadyH.nil)
  go_simp
  refine (MY.out _).mono ?_
  rintro e w3 ⟨rfl, rfl⟩
  refine hK.out _ _ trivial (fun hHeld => ?_)
  clear hK K
  refine wpAnyH_done (by kernel_rfl) ?_ _
  clear hHeld
  go_wp2_with fail
  go_ret
  exact ⟨rfl, f2⟩
set_option maxRecDepth 100000 in
set_option maxHeartbeats 1600000 in
theorem i_unsealedN (gp : Addr) (s : ByteArray) (w : World) (hs : s.size ≤ 1048577) (hG : GU gp w) (hU : ¬ UsOk s) :
    Calls Tryd.prog 40 #[.string s] w fun e w' => e = gaveUp gp ∧ Below w.heap.size w w' := by
  have MY := hide (fun w => i_mustY w)
  have SM := hide (fun w => i_sumOf (preB s) w (by rw [preB_size]; omega))
  have MN := hide (fun w (h : GU gp w) => i_mustN gp w h)
  by_cases hp : 0 < s.size
  case neg =>
    have hne : s.toList.isEmpty = true := by rw [empty17]; exact decide_eq_true (by omega)
    go_enter Tryd.func40, Tryd.ntmps40
    go_wp2_with fail
    refine (MN.out _ hG).mono ?_
    rintro e w1 ⟨rfl, rfl⟩
    exact ⟨rfl, rfl, Below.refl _ _⟩
  have hlt : s.size - 1 < s.size := by omega
  have hby := by17_at hlt
  have hne : s.toList.isEmpty = false := by rw [empty17]; exact decide_eq_false (by omega)
  have hnn : (s.size : Int) - 1 = ((s.size - 1 : Nat) : Int) := by omega
  have hpre : s.extract 0 (s.size - 1) = preB s := rfl
  rw [preB_size] at SM
  have hb : by17 s (s.size - 1) ≠ sumN (preB s) (s.size - 1) := fun h => hU ⟨hp, h⟩
  rw [hby] at hb
  generalize sumN (preB s) (s.size - 1) = q at *
  generalize hch : ((s[s.size - 1]'hlt).toNat : Int) = ch at *
  generalize preB s = pre at *
  go_enter Tryd.func40, Tryd.ntmps40
  go_wp2_with fail
  refine (MY.out _).mono ?_
  rintro e w1 ⟨rfl, rfl⟩
  go_upto_region 3 with fail
  refine wp_region_held_drew (S := fun _ => True) (by kernel_rfl) trivial (fun hHeld => ?_)
  refine wpAnyH_take (i := 0) (v := .string s) rfl (by kernel_rfl) (by kernel_rfl) (by kernel_rfl) (fun _ _ _ h => h) (Or.inl ⟨by rfl, fun w' hSw => by go_simp⟩) hHeld ?_
  simp only [List.getElem_toArray, List.getElem_cons_zero, Act.put, List.setIfInBounds_toArray, List.set_cons_zero, List.set_cons_succ]
  refine wpAnyH_take (i := 1) (v := .int .i64 ((s.size : Int) - 1)) rfl (by kernel_rfl) (by kernel_rfl) (by kernel_rfl) (fun _ _ _ h => h) (Or.inl ⟨by rfl, fun w' hSw => by go_simp⟩) hHeld ?_
  simp only [List.getElem_toArray, List.getElem_cons_succ, List.getElem_cons_zero, Act.put, List.setIfInBounds_toArray, List.set_cons_zero, List.set_cons_succ]
  refine wpAnyH_take (i := 2) (v := .int .u8 ch) rfl (by kernel_rfl) (by kernel_rfl) (by kernel_rfl) (fun _ _ _ h => h) (Or.inl ⟨by rfl, fun w' hSw => by rw [← hch]; go_simp⟩) hHeld ?_
  simp only [List.getElem_toArray, List.getElem_cons_succ, List.getElem_cons_zero, Act.put, List.setIfInBounds_toArray, List.set_cons_zero, List.set_cons_succ]
  refine wpAnyH_take (i := 3) (v := .string s) rfl (by kernel_rfl) (by kernel_rfl) (by kernel_rfl) (fun _ _ _ h => h) (Or.inl ⟨by rfl, fun w' hSw => by go_simp⟩) hHeld ?_
  simp only [List.getElem_toArray, List.getElem_cons_succ, List.getElem_cons_zero, Act.put, List.setIfInBounds_toArray, List.set_cons_zero, List.set_cons_succ]
  refine wpAnyH_take (i := 4) (v := .int .i64 ((s.size : Int) - 1)) rfl (by kernel_rfl) (by kernel_rfl) (by kernel_rfl) (fun _ _ _ h => h) (Or.inl ⟨by rfl, fun w' hSw => by go_simp⟩) hHeld ?_
  simp only [List.getElem_toArray, List.getElem_cons_succ, List.getElem_cons_zero, Act.put, List.setIfInBounds_toArray, List.set_cons_zero, List.set_cons_succ]
  refine wpAnyH_take (i := 5) (v := .string pre) rfl (by kernel_rfl) (by kernel_rfl) (by kernel_rfl) (fun _ _ _ h => h) (Or.inl ⟨by rfl, fun w' hSw => by rw [← hpre]; go_simp⟩) hHeld ?_
  simp only [List.getElem_toArray, List.getElem_cons_succ, List.getElem_cons_zero, Act.put, List.setIfInBounds_toArray, List.set_cons_zero, List.set_cons_succ]
  refine wpAnyH_ready (rs := [6]) (by kernel_rfl) (by simp) (AllReadyH.cons rfl (fun K hK => ?_) AllReadyH.nil)
  go_simp
  refine (SM.out _).mono ?_
  rintro e w2 ⟨rfl, b2⟩
  have f2 := (Below.refl w1.heap.size w1).drew.trans b2
  refine hK.out _ _ trivial (fun hHeld => ?_)
  clear hK K
  refine wpAnyH_take (i := 7) (v := .bool false) rfl (by kernel_rfl) (by kernel_rfl) (by kernel_rfl) (fun _ _ _ h => h) (Or.inl ⟨by rfl, fun w' hSw => by go_simp⟩) hHeld ?_
  simp only [List.getElem_toArray, List.getElem_cons_succ, List.getElem_cons_zero, Act.put, List.setIfInBounds_toArray, List.set_cons_zero, List.set_cons_succ]
  refine wpAnyH_ready (rs := [8]) (by kernel_rfl) (by simp) (AllReadyH.cons rfl (fun K hK => ?_) AllReadyH.nil)
  go_simp
  refine (MN.out _ (hG.below f2)).mono ?_
  rintro e w3 ⟨rfl, rfl⟩
  exact ⟨rfl, rfl, f2⟩
set_option maxRecDepth 100000 in
set_option maxHeartbeats 800000 in
theorem i_ansUs_yes (p : Addr) (R : Value → World → Prop) (w : World) (h : Calls Tryd.prog 39 #[.pointer (some p)] w fun e w' => ∃ v, e = .returned v ∧ R v w') :
    Calls Tryd.prog 38 #[.func (.func 39) #[] #[.pointer (some p)]] w fun e w' => ∃ v, e = .returned (.tuple #[v, .bool true]) ∧ R v w' := by
  have hmf : ∀ (fn : Fn) (first cap : Array Value) (w : World), (Instr.makeFunc fn first cap).run Tryd.prog w = .ok (.func fn first cap) w := fun _ _ _ _ => rfl
  replace h := hide h
  go_enter_defers Tryd.func38, Tryd.ntmps38
  go_wp2_with fail
  refine h.out.mono ?_
  rintro e w1 ⟨v, rfl, hR⟩
  go_wp2_with fail
  refine leaves_cons (f := 56) (args := #[]) (by simp) (by simp [go_sem]) ?_
  refine (catch_idleS _).mono ?_
  rintro e u' w'' ⟨rfl, rfl, rfl⟩
  simp [Leaves, settle, results, Tryd.results38, go_sem, hR]
set_option maxRecDepth 100000 in
set_option maxHeartbeats 800000 in
theorem i_ansUs_no (p : Addr) (gp : Addr) (R : World → Prop) (w : World) (hG : ∀ w', R w' → GU gp w') (h : Calls Tryd.prog 39 #[.pointer (some p)] w fun e w' => e = gaveUp gp ∧ R w') :
    Calls Tryd.prog 38 #[.func (.func 39) #[] #[.pointer (some p)]] w fun e w' => e = .returned (.tuple #[.string ⟨#[]⟩, .bool false]) ∧ R w' := by
  have hmf : ∀ (fn : Fn) (first cap : Array Value) (w : World), (Instr.makeFunc fn first cap).run Tryd.prog w = .ok (.func fn first cap) w := fun _ _ _ _ => rfl
  replace h := hide h
  go_enter_defers Tryd.func38, Tryd.ntmps38
  go_wp2_with fail
  refine h.out.mono ?_
  rintro e w1 ⟨rfl, hR⟩
  simp only [gaveUp]
  go_wp2_with fail
  refine leaves_cons (f := 56) (args := #[]) (by simp) (by simp [go_sem]) ?_
  refine (catch_upS gp [] _ (hG _ hR)).mono ?_
  rintro e u' w'' ⟨rfl, rfl, rfl⟩
  simp [Leaves, settle, results, Tryd.results38, go_sem, hR]
set_option maxRecDepth 100000 in
set_option maxHeartbeats 1600000 in
theorem i_unseal1Y (p : Addr) (s : ByteArray) (w : World) (hc : w.cell? p = some (.string s)) (hs : s.size ≤ 1048577) (hU : UsOk s) :
    Calls Tryd.prog 39 #[.pointer (some p)] w fun e w' => ∃ v, e = .returned v ∧ (v = .string (preB s) ∧ Below w.heap.size w w') := by
  have U := hide (fun w => i_unsealedY s w hs hU)
  go_enter Tryd.func39, Tryd.ntmps39
  go_wp2_with fail
  refine (U.out _).mono ?_
  rintro e w1 ⟨rfl, b1⟩
  go_wp2_with fail
  go_ret
  exact ⟨_, rfl, rfl, b1⟩
set_option maxRecDepth 100000 in
set_option maxHeartbeats 1600000 in
theorem i_unseal1N (gp : Addr) (p : Addr) (s : ByteArray) (w : World) (hc : w.cell? p = some (.string s)) (hs : s.size ≤ 1048577) (hG : GU gp w) (hU : ¬ UsOk s) :
    Calls Tryd.prog 39 #[.pointer (some p)] w fun e w' => e = gaveUp gp ∧ Below w.heap.size w w' := by
  have U := hide (fun w h => i_unsealedN gp s w hs h hU)
  go_enter Tryd.func39, Tryd.ntmps39
  go_wp2_with fail
  refine (U.out _ hG).mono ?_
  rintro e w1 ⟨rfl, b1⟩
  exact ⟨rfl, rfl, b1⟩
set_option maxRecDepth 100000 in
set_option maxHeartbeats 1600000 in
theorem i_unseal (gp : Addr) (s : ByteArray) (w : World) (hs : s.size ≤ 1048577) (hG : GU gp w) :
    Calls Tryd.prog 18 #[.string s] w fun e w' => e = .returned (.tuple #[.string (usA s).1, .bool (usA s).2]) ∧ Below w.heap.size w w' := by
  have hmf : ∀ (fn : Fn) (first cap : Array Value) (w : World), (Instr.makeFunc fn first cap).run Tryd.prog w = .ok (.func fn first cap) w := fun _ _ _ _ => rfl
  have d0 : Below w.heap.size w (w.alloc (.cells #[.string s] 9)) := below_box (Below.refl _ _)
  have c0 : (w.alloc (.cells #[.string s] 9)).cell? ⟨w.heap.size, 0, none⟩ = some (.string s) := by simp [go_sem]
  by_cases hU : UsOk s
  · have e1 : usA s = (preB s, true) := if_pos hU
    rw [e1]
    have Z := hide (i_ansUs_yes ⟨w.heap.size, 0, none⟩ (fun v w' => v = .string (preB s) ∧ Below (w.alloc (.cells #[.string s] 9)).heap.size (w.alloc (.cells #[.string s] 9)) w') _ (i_unseal1Y _ s _ c0 hs hU))
    generalize preB s = pre at *
    go_enter Tryd.func18, Tryd.ntmps18
    go_wp2_with fail
    refine Z.out.mono ?_
    rintro e w1 ⟨v, rfl, rfl, b1⟩
    have d1 := below_step d0 b1
    go_wp2_with fail
    exact bodyPost_ret (v := .tuple #[.string pre, .bool true]) (by simp [results, Tryd.results18, go_sem]) rfl ⟨rfl, d1⟩
  · have e1 : usA s = (⟨#[]⟩, false) := if_neg hU
    rw [e1]
    have hG0 := hG.below d0
    have Z := hide (i_ansUs_no ⟨w.heap.size, 0, none⟩ gp (fun w' => Below (w.alloc (.cells #[.string s] 9)).heap.size (w.alloc (.cells #[.string s] 9)) w') _ (fun w' h => hG0.below h) (i_unseal1N gp _ s _ c0 hs hG0 hU))
    go_enter Tryd.func18, Tryd.ntmps18
    go_wp2_with fail
    refine Z.out.mono ?_
    rintro e w1 ⟨rfl, b1⟩
    have d1 := below_step d0 b1
    go_wp2_with fail
    exact bodyPost_ret (v := .tuple #[.string ⟨#[]⟩, .bool false]) (by simp [results, Tryd.results18, go_sem]) rfl ⟨rfl, d1⟩
end Go.Proofs.YtnpnhdaehddnmaaDoor
