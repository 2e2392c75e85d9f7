/- What comes of a step: settled. -/
import Derived.Test.YtnficndeblkjhaaGreatDoorGrp7
import Derived.Test.YtnficndeblkjhaaGreatDoorAs16
import Derived.Test.YtnficndeblkjhaaGreatDoorIs16
import Derived.Test.YtnficndeblkjhaaGreatDoorSt16b
import Derived.Test.YtnficndeblkjhaaGreatDoorGrp5
import Derived.Deep.RegionHeld
import Derived.Deep.RegionHeld3
namespace Go.Proofs.YtnficndeblkjhaaGreatDoor
open Go.RowKit

set_option maxRecDepth 100000 in
set_option maxHeartbeats 1600000 in
theorem i_settledN (ca ra ha : Option Addr) (cn kc rn kr hn kh : Nat) (l : Int) (w : World) :
    Calls Tryz.prog 35 #[.agg #[.slice ca cn kc, .slice ra rn kr, .slice ha hn kh, .int .i64 l], .nilIface] w fun e w' => e = .returned (.tuple #[.agg #[.slice ca cn kc, .slice ra rn kr, .slice ha hn kh, .int .i64 l], .bool true]) ∧ Below w.heap.size w w' := by
  have M1 := ((Mut.new w #[.slice ca cn kc, .slice ra rn kr, .slice ha hn kh, .int .i64 l] 34).alloc (.cells #[.slice none 0 0, .slice none 0 0, .slice none 0 0, .int .i64 0] 34)).alloc (.cells #[.pointer none] 91)
  have M2 := (Mut.new (w.alloc (.cells #[.slice ca cn kc, .slice ra rn kr, .slice ha hn kh, .int .i64 l] 34)) #[.slice none 0 0, .slice none 0 0, .slice none 0 0, .int .i64 0] 34).alloc (.cells #[.pointer none] 91)
  have M3 := Mut.new ((w.alloc (.cells #[.slice ca cn kc, .slice ra rn kr, .slice ha hn kh, .int .i64 l] 34)).alloc (.cells #[.slice none 0 0, .slice none 0 0, .slice none 0 0, .int .i64 0] 34)) #[.pointer none] 91
  have d1 : Below w.heap.size w (((w.alloc (.cells #[.slice ca cn kc, .slice ra rn kr, .slice ha hn kh, .int .i64 l] 34)).alloc (.cells #[.slice none 0 0, .slice none 0 0, .slice none 0 0, .int .i64 0] 34)).alloc (.cells #[.pointer none] 91)) := below_box3 (Below.refl _ _)
  simp only [World.size_alloc] at M2 M3
  go_enter Tryz.func35, Tryz.ntmps35
  go_wp2_with fail
  generalize (((w.alloc (.cells #[.slice ca cn kc, .slice ra rn kr, .slice ha hn kh, .int .i64 l] 34)).alloc (.cells #[.slice none 0 0, .slice none 0 0, .slice none 0 0, .int .i64 0] 34)).alloc (.cells #[.pointer none] 91)) = wa at *
  refine (as_nil16 _ wa).mono ?_
  rintro e w1 ⟨rfl, rfl⟩
  have k0 := M1.2.1 0 _ rfl
  have k1 := M1.2.1 1 _ rfl
  have k2 := M1.2.1 2 _ rfl
  have k3 := M1.2.1 3 _ rfl
  go_wp2_with (refine wpList_storeM (us := [.slice ca cn kc, .slice ra rn kr, .slice ha hn kh, .int .i64 l]) rfl rfl rfl rfl M2 rfl (by intro v hv; simp only [List.mem_cons, List.not_mem_nil, or_false] at hv; rcases hv with rfl | rfl | rfl | rfl <;> rfl) sizeSto ?_; intro w9 M9 o9)
  have on := OnlyP.of_only (P := fun x => x = w.heap.size + 1) o9 rfl
  have e9 := d1.trans (on.below (base := w.heap.size) (fun x _ hx => by have h : x = w.heap.size + 1 := hx; omega) d1.size)
  have r0 := M9.2.1 0 _ rfl
  have r1 := M9.2.1 1 _ rfl
  have r2 := M9.2.1 2 _ rfl
  have r3 := M9.2.1 3 _ rfl
  exact bodyPost_ret (v := .tuple #[.agg #[.slice ca cn kc, .slice ra rn kr, .slice ha hn kh, .int .i64 l], .bool true]) (by simp [results, Tryz.results35, go_sem, r0, r1, r2, r3]) rfl ⟨rfl, e9⟩
set_option maxRecDepth 100000 in
set_option maxHeartbeats 1600000 in
theorem i_settledF (z : Value) (b : Nat) (kd : Value) (gl : Addr) (is : Bool) (ca ra ha : Option Addr) (cn kc rn kr hn kh : Nat) (l : Int) (w : World)
    (hz : z = .agg #[.slice none 0 0, .slice none 0 0, .slice none 0 0, .int .i64 0]) (hg0 : w.cell? ⟨0, 0, none⟩ = some (.iface 173 (.pointer (some gl)))) (hg1 : w.cell? ⟨1, 0, none⟩ = some (.iface 129 (.agg #[.pointer (some ⟨3, 67, none⟩)]))) (h2 : 2 < w.heap.size)
    (hF : Mut w b [kd, .slice ca cn kc, .slice ra rn kr, .slice ha hn kh, .int .i64 l]) (hI : ∀ W, Below w.heap.size w W → Calls Tryz.prog 63 #[.iface 91 (.pointer (some ⟨b, 0, none⟩)), .iface 173 (.pointer (some gl))] W fun e w' => e = .returned (.bool is) ∧ w' = W) :
    Calls Tryz.prog 35 #[z, .iface 91 (.pointer (some ⟨b, 0, none⟩))] w fun e w' => e = .returned (.tuple #[.agg #[.slice ca cn kc, .slice ra rn kr, .slice ha hn kh, .int .i64 l], .bool is]) ∧ Below w.heap.size w w' := by
  subst hz
  replace hI := hide hI
  have M1 := ((Mut.new w #[.slice none 0 0, .slice none 0 0, .slice none 0 0, .int .i64 0] 34).alloc (.cells #[.slice none 0 0, .slice none 0 0, .slice none 0 0, .int .i64 0] 34)).alloc (.cells #[.pointer none] 91)
  have M2 := (Mut.new (w.alloc (.cells #[.slice none 0 0, .slice none 0 0, .slice none 0 0, .int .i64 0] 34)) #[.slice none 0 0, .slice none 0 0, .slice none 0 0, .int .i64 0] 34).alloc (.cells #[.pointer none] 91)
  have M3 := Mut.new ((w.alloc (.cells #[.slice none 0 0, .slice none 0 0, .slice none 0 0, .int .i64 0] 34)).alloc (.cells #[.slice none 0 0, .slice none 0 0, .slice none 0 0, .int .i64 0] 34)) #[.pointer none] 91
  have d1 : Below w.heap.size w (((w.alloc (.cells #[.slice none 0 0, .slice none 0 0, .slice none 0 0, .int .i64 0] 34)).alloc (.cells #[.slice none 0 0, .slice none 0 0, .slice none 0 0, .int .i64 0] 34)).alloc (.cells #[.pointer none] 91)) := below_box3 (Below.refl _ _)
  simp only [World.size_alloc] at M2 M3
  go_enter Tryz.func35, Tryz.ntmps35
  go_wp2_with fail
  generalize (((w.alloc (.cells #[.slice none 0 0, .slice none 0 0, .slice none 0 0, .int .i64 0] 34)).alloc (.cells #[.slice none 0 0, .slice none 0 0, .slice none 0 0, .int .i64 0] 34)).alloc (.cells #[.pointer none] 91)) = wa at *
  have g1 := ((bcell d1).1 1 0 (by omega)).trans hg1
  have g0 := ((bcell d1).1 0 0 (by omega)).trans hg0
  have hbw := hF.1
  replace hF := hF.below d1
  refine (as_hit16 ⟨b, 0, none⟩ ⟨w.heap.size + 1 + 1, 0, none⟩ (.pointer none) wa g1 (M3.2.1 0 _ rfl) (M3.2.2 0 (by simp))).mono ?_
  rintro e w1 ⟨rfl, hw1⟩
  have b4 : Below wa.heap.size wa ((((wa.alloc (.cells #[.pointer (some ⟨w.heap.size + 1 + 1, 0, none⟩)] 93)).alloc (.cells #[.pointer (some ⟨3, 93, none⟩), .pointer (some ⟨wa.heap.size, 0, none⟩), .int .u64 150] 110)).alloc (.cells #[.pointer (some ⟨3, 93, none⟩), .pointer (some ⟨wa.heap.size, 0, none⟩), .int .u64 150] 110)).alloc (.cells #[.pointer (some ⟨b, 0, none⟩)] 91)) := below_box (below_box3 (Below.refl _ _))
  have B1 : Below w.heap.size w w1 := hw1 ▸ (d1.trans (b4.mono d1.size)).setCell (p := ⟨w.heap.size + 1 + 1, 0, none⟩) (by show w.heap.size ≤ w.heap.size + 1 + 1; omega) _
  have T1 : Mut w1 (w.heap.size + 1 + 1) [.pointer (some ⟨b, 0, none⟩)] := hw1 ▸ (M3.below b4).set 0 (.pointer (some ⟨b, 0, none⟩))
  have M21 : Mut w1 (w.heap.size + 1) [.slice none 0 0, .slice none 0 0, .slice none 0 0, .int .i64 0] := hw1 ▸ (M2.below b4).other (c := w.heap.size + 1 + 1) (by omega) 0 (.pointer (some ⟨b, 0, none⟩))
  have F1 : Mut w1 b [kd, .slice ca cn kc, .slice ra rn kr, .slice ha hn kh, .int .i64 l] := hw1 ▸ (hF.below b4).other (c := w.heap.size + 1 + 1) (by omega) 0 (.pointer (some ⟨b, 0, none⟩))
  have G1 := ((bcell B1).1 0 0 (by omega)).trans hg0
  have hw2 : w.heap.size + 1 + 1 < w1.heap.size := T1.1
  clear b4 hw1 M1 M2 M3 hF g0 g1 d1 hg0 hg1
  go_wp2_with fail
  have hS : ∀ w' : World, Below w1.heap.size w1 w' → w'.cell? ⟨w.heap.size + 1 + 1, 0, none⟩ = some (.pointer (some ⟨b, 0, none⟩)) ∧ w'.cell? ⟨b, 1, none⟩ = some (.slice ca cn kc) ∧ w'.cell? ⟨b, 2, none⟩ = some (.slice ra rn kr) ∧ w'.cell? ⟨b, 3, none⟩ = some (.slice ha hn kh) ∧ w'.cell? ⟨b, 4, none⟩ = some (.int .i64 l) ∧ w'.cell? ⟨0, 0, none⟩ = some (.iface 173 (.pointer (some gl))) := fun w' q => ⟨(T1.below q).2.1 0 _ rfl, (F1.below q).2.1 1 _ rfl, (F1.below q).2.1 2 _ rfl, (F1.below q).2.1 3 _ rfl, (F1.below q).2.1 4 _ rfl, ((bcell q).1 0 0 (by omega)).trans G1⟩
  refine wp_region_held_drew (S := fun w' => w'.cell? ⟨w.heap.size + 1 + 1, 0, none⟩ = some (.pointer (some ⟨b, 0, none⟩)) ∧ w'.cell? ⟨b, 1, none⟩ = some (.slice ca cn kc) ∧ w'.cell? ⟨b, 2, none⟩ = some (.slice ra rn kr) ∧ w'.cell? ⟨b, 3, none⟩ = some (.slice ha hn kh) ∧ w'.cell? ⟨b, 4, none⟩ = some (.int .i64 l) ∧ w'.cell? ⟨0, 0, none⟩ = some (.iface 173 (.pointer (some gl)))) (by kernel_rfl) (hS _ (Below.refl _ _).drew) (fun hHeld => ?_)
  refine wpAnyH_take (i := 0) (v := .pointer (some ⟨b, 0, none⟩)) rfl (by kernel_rfl) (by kernel_rfl) (by kernel_rfl) (fun _ _ _ h => h) (Or.inl ⟨by rfl, fun w' hSw => by go_simp⟩) hHeld ?_
  simp only [List.getElem_toArray, List.getElem_cons_zero, Act.put, List.setIfInBounds_toArray, List.set_cons_zero, List.set_cons_succ]
  refine wpAnyH_take (i := 1) (v := .pointer (some ⟨b, 0, none⟩)) rfl (by kernel_rfl) (by kernel_rfl) (by kernel_rfl) (fun _ _ _ h => h) (Or.inl ⟨by rfl, fun w' hSw => by go_simp⟩) hHeld ?_
  simp only [List.getElem_toArray, List.getElem_cons_succ, List.getElem_cons_zero, Act.put, List.setIfInBounds_toArray, List.set_cons_zero, List.set_cons_succ]
  refine wpAnyH_take (i := 2) (v := .pointer (some ⟨b, 1, none⟩)) rfl (by kernel_rfl) (by kernel_rfl) (by kernel_rfl) (fun _ _ _ h => h) (Or.inl ⟨by rfl, fun w' hSw => by go_simp⟩) hHeld ?_
  simp only [List.getElem_toArray, List.getElem_cons_succ, List.getElem_cons_zero, Act.put, List.setIfInBounds_toArray, List.set_cons_zero, List.set_cons_succ]
  refine wpAnyH_take (i := 3) (v := .agg #[.slice ca cn kc, .slice ra rn kr, .slice ha hn kh, .int .i64 l]) rfl (by kernel_rfl) (by kernel_rfl) (by kernel_rfl) (fun _ _ _ h => h) (Or.inl ⟨by rfl, fun w' hSw => by go_simp⟩) hHeld ?_
  simp only [List.getElem_toArray, List.getElem_cons_succ, List.getElem_cons_zero, Act.put, List.setIfInBounds_toArray, List.set_cons_zero, List.set_cons_succ]
  refine wpAnyH_take (i := 4) (v := .iface 91 (.pointer (some ⟨b, 0, none⟩))) rfl (by kernel_rfl) (by kernel_rfl) (by kernel_rfl) (fun _ _ _ h => h) (Or.inl ⟨by rfl, fun w' hSw => by go_simp⟩) hHeld ?_
  simp only [List.getElem_toArray, List.getElem_cons_succ, List.getElem_cons_zero, Act.put, List.setIfInBounds_toArray, List.set_cons_zero, List.set_cons_succ]
  refine wpAnyH_take (i := 5) (v := .iface 173 (.pointer (some gl))) rfl (by kernel_rfl) (by kernel_rfl) (by kernel_rfl) (fun _ _ _ h => h) (Or.inl ⟨by rfl, fun w' hSw => by go_simp⟩) hHeld ?_
  simp only [List.getElem_toArray, List.getElem_cons_succ, List.getElem_cons_zero, Act.put, List.setIfInBounds_toArray, List.set_cons_zero, List.set_cons_succ]
  have f0 : Below w1.heap.size w1 w1.drew := (Below.refl _ _).drew
  refine wpAnyH_ready (rs := [6]) (by kernel_rfl) (by simp) (AllReadyH.cons rfl (fun K hK => ?_) AllReadyH.nil)
  go_simp
  refine (hI.out _ (B1.trans (f0.mono B1.size))).mono ?_
  rintro e y1 ⟨rfl, rfl⟩
  refine hK.out _ _ (hS _ f0) (fun hHeld => ?_)
  clear hK K
  refine wpAnyH_ready (rs := [7]) (by kernel_rfl) (by simp) (AllReadyH.cons rfl (fun K hK => ?_) AllReadyH.nil)
  rw [if_pos (by rfl)]
  refine wp_storeM (us := [.slice ca cn kc, .slice ra rn kr, .slice ha hn kh, .int .i64 l]) rfl rfl rfl (M21.below f0) rfl (by intro v hv; simp only [List.mem_cons, List.not_mem_nil, or_false] at hv; rcases hv with rfl | rfl | rfl | rfl <;> rfl) sizeSto ?_
  intro w9 M9 o9
  have on := OnlyP.of_only (P := fun x => x = w.heap.size + 1) o9 rfl
  have e9 := (B1.trans (f0.mono B1.size)).trans (on.below (base := w.heap.size) (fun x _ hx => by have h : x = w.heap.size + 1 := hx; omega) (B1.trans (f0.mono B1.size)).size)
  have T9 := (T1.below f0).onlyP on (fun h => by have h : w.heap.size + 1 + 1 = w.heap.size + 1 := h; omega)
  have F9 := (F1.below f0).onlyP on (fun h => by have h : b = w.heap.size + 1 := h; omega)
  have g9 := (on.cell (b := 0) (o := 0) (by have h : w1.drew.heap.size = w1.heap.size := rfl; omega) (fun h => by have h : 0 = w.heap.size + 1 := h; omega)).trans (((bcell f0).1 0 0 (by omega)).trans G1)
  refine hK.out _ _ ⟨T9.2.1 0 _ rfl, F9.2.1 1 _ rfl, F9.2.1 2 _ rfl, F9.2.1 3 _ rfl, F9.2.1 4 _ rfl, g9⟩ (fun hHeld => ?_)
  clear hK K
  refine wpAnyH_take (i := 8) (v := .bool is) rfl (by kernel_rfl) (by kernel_rfl) (by kernel_rfl) (fun _ _ _ h => h) (Or.inl ⟨by rfl, fun w' hSw => by go_simp⟩) hHeld ?_
  simp only [List.getElem_toArray, List.getElem_cons_succ, List.getElem_cons_zero, Act.put, List.setIfInBounds_toArray, List.set_cons_zero, List.set_cons_succ]
  have r0 := M9.2.1 0 _ rfl
  have r1 := M9.2.1 1 _ rfl
  have r2 := M9.2.1 2 _ rfl
  have r3 := M9.2.1 3 _ rfl
  refine wpAnyH_done (by kernel_rfl) ?_ _
  clear hHeld
  go_wp2_with fail
  exact bodyPost_ret (v := .tuple #[.agg #[.slice ca cn kc, .slice ra rn kr, .slice ha hn kh, .int .i64 l], .bool is]) (by simp [results, Tryz.results35, go_sem, r0, r1, r2, r3]) rfl ⟨rfl, e9⟩
/-- What comes of a step. -/
theorem i_settled (gl gr : Addr) (w0 w : World) (base : Nat) (s : Sto) (r : Sto × Bool) (v er : Value) (hG : GW gl gr w) (hb : Below w0.heap.size w0 w) (hV : MetV gl gr w0 base s r v er w) :
    Calls Tryz.prog 35 #[v, er] w fun e w' => ∃ v', e = .returned (.tuple #[v', .bool r.2]) ∧ Stb w0.heap.size base (RowSt true v' r.1) w' ∧ Below w.heap.size w w' := by
  have hGB : ∀ W, Below w.heap.size w W → GW gl gr W := fun W q => hG.below q
  obtain ⟨g0, g1, g2, hne, ⟨c1, t1, l1⟩, ⟨c2, t2, l2⟩, h2⟩ := hG
  rcases hV with ⟨rfl, h1, h2⟩ | ⟨b, rfl, rfl, rfl, hbb, ca, kc, ra, kr, ha, kh, hM, hR⟩ | ⟨b, s', rfl, rfl, rfl, hbb, ca, kc, ra, kr, ha, kh, hM, hR⟩
  · obtain ⟨ca, kc, ra, kr, ha, kh, e⟩ := h2.here.form
    subst e
    refine (i_settledN ca ra ha _ kc _ kr _ kh _ w).mono ?_
    rintro e w' ⟨rfl, q⟩
    exact ⟨_, by rw [h1], h2.below q, q⟩
  · refine (i_settledF zSt b _ gl false ca ra ha _ kc _ kr _ kh _ w rfl g0 g1 h2 hM (fun W q => ?_)).mono ?_
    · obtain ⟨_, _, _, _, ⟨d1, u1, k1⟩, ⟨d2, u2, k2⟩, _⟩ := hGB W q
      exact is_other16 b gr gl _ _ _ _ W ((hM.below q).2.1 0 _ rfl) (fun h => hne h.symm) k2 k1
    · rintro e w' ⟨rfl, q⟩
      exact ⟨_, rfl, Stb.old (fun w' k => hR.below k) (hb.trans (q.mono hb.size)), q⟩
  · refine (i_settledF zSt b _ gl true ca ra ha _ kc _ kr _ kh _ w rfl g0 g1 h2 hM (fun W q => ?_)).mono ?_
    · exact is_same16 b gl W ((hM.below q).2.1 0 _ rfl)
    · rintro e w' ⟨rfl, q⟩
      exact ⟨_, rfl, Stb.old (fun w' k => hR.below k) (hb.trans (q.mono hb.size)), q⟩
end Go.Proofs.YtnficndeblkjhaaGreatDoor
