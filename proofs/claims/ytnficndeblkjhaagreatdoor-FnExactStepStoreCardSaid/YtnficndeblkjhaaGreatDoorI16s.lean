/- A tick. -/
import Derived.Test.YtnficndeblkjhaaGreatDoorGrp5
import Derived.Test.YtnficndeblkjhaaGreatDoorI16p
namespace Go.Proofs.YtnficndeblkjhaaGreatDoor
open Go.RowKit

set_option maxRecDepth 100000 in
set_option maxHeartbeats 1600000 in
theorem i_ticked (v : Value) (s : Sto) (gl gr : Addr) (w0 w : World) (hG : GW gl gr w) (hb : Below w0.heap.size w0 w) (hR : RowSt true v s w0) (hs : OkS s) :
    Calls Tryz.prog 74 #[v] w (MetP gl gr w0 w.heap.size s (if s.l = 0 then (s, false) else if s.l - 1 = 0 then (⟨s.C, s.H 0, s.h, s.H, 0⟩, true) else (⟨s.C, s.R, s.h, s.H, s.l - 1⟩, true)) w) := by
  obtain ⟨ca, kc, ra, kr, ha, kh, rfl, R1, R2, R3, R4⟩ := hR
  have hRS : RowSt true (stV s ca kc ra kr ha kh) s w0 := ⟨ca, kc, ra, kr, ha, kh, rfl, R1, R2, R3, R4⟩
  unfold stV
  unfold stV at hRS
  have M1 := (Mut.new w #[.slice ca s.C.n kc, .slice ra s.R.n kr, .slice ha s.h kh, .int .i64 s.l] 34).alloc (.cells #[.slice none 0 0, .slice none 0 0, .slice none 0 0, .int .i64 0] 34)
  have M2 := Mut.new (w.alloc (.cells #[.slice ca s.C.n kc, .slice ra s.R.n kr, .slice ha s.h kh, .int .i64 s.l] 34)) #[.slice none 0 0, .slice none 0 0, .slice none 0 0, .int .i64 0] 34
  have d1 : Below w.heap.size w ((w.alloc (.cells #[.slice ca s.C.n kc, .slice ra s.R.n kr, .slice ha s.h kh, .int .i64 s.l] 34)).alloc (.cells #[.slice none 0 0, .slice none 0 0, .slice none 0 0, .int .i64 0] 34)) := below_box2 (Below.refl _ _)
  simp only [World.size_alloc] at M2
  have RF := hide (fun W (hG : GW gl gr W) => i_refused (.agg #[.slice ca s.C.n kc, .slice ra s.R.n kr, .slice ha s.h kh, .int .i64 s.l]) s gl gr w0 W hG hRS)
  have hY : Hid (¬ s.l = 0 → s.l - 1 = 0 → (if s.l = 0 then (s, false) else if s.l - 1 = 0 then (⟨s.C, s.H 0, s.h, s.H, 0⟩, true) else (⟨s.C, s.R, s.h, s.H, s.l - 1⟩, true)) = (⟨s.C, s.H 0, s.h, s.H, 0⟩, true)) := fun a b => by rw [if_neg a, if_pos b]
  have hX : Hid (¬ s.l = 0 → ¬ s.l - 1 = 0 → (if s.l = 0 then (s, false) else if s.l - 1 = 0 then (⟨s.C, s.H 0, s.h, s.H, 0⟩, true) else (⟨s.C, s.R, s.h, s.H, s.l - 1⟩, true)) = (⟨s.C, s.R, s.h, s.H, s.l - 1⟩, true)) := fun a b => by rw [if_neg a, if_neg b]
  have hZ : Hid (s.l = 0 → (if s.l = 0 then (s, false) else if s.l - 1 = 0 then (⟨s.C, s.H 0, s.h, s.H, 0⟩, true) else (⟨s.C, s.R, s.h, s.H, s.l - 1⟩, true)) = (s, false)) := fun a => if_pos a
  generalize (if s.l = 0 then (s, false) else if s.l - 1 = 0 then (⟨s.C, s.H 0, s.h, s.H, 0⟩, true) else (⟨s.C, s.R, s.h, s.H, s.l - 1⟩, true)) = GB at *
  by_cases k0 : s.l = 0
  · have hE := hide (hZ.out k0)
    have k1 : (s.l == 0) = true := by simp [k0]
    clear hY hZ hX k0
    go_enter Tryz.func74, Tryz.ntmps74
    go_wp2_with fail
    refine (RF.out _ (hG.below (d1))).mono ?_
    rintro e w2 ⟨b, rfl, hbb, FA, bb⟩
    have d2 := (d1).trans (bb.mono (d1).size)
    have M22 := (M2).below bb
    have hbk : w.heap.size + 1 < b := by have h := (M2).1; have h2 : ((w.alloc (.cells #[.slice ca s.C.n kc, .slice ra s.R.n kr, .slice ha s.h kh, .int .i64 s.l] 34)).alloc (.cells #[.slice none 0 0, .slice none 0 0, .slice none 0 0, .int .i64 0] 34)).heap.size ≤ b := hbb; omega
    clear bb
    unfold zSt
    go_wp2_with (refine wpList_storeM (us := [.slice none 0 0, .slice none 0 0, .slice none 0 0, .int .i64 0]) rfl rfl rfl rfl M22 rfl (by intro v hv; simp only [List.mem_cons, List.not_mem_nil, or_false] at hv; rcases hv with rfl | rfl | rfl | rfl <;> rfl) sizeSto ?_; intro w9 M9 o9)
    have on := OnlyP.of_only (P := fun x => x = w.heap.size + 1) o9 rfl
    have q9 := on.2.2.2.1
    have e9 := (d2).trans (on.below (base := w.heap.size) (fun x _ hx => by have h : x = w.heap.size + 1 := hx; omega) (d2).size)
    have b9 := hb.trans (e9.mono hb.size)
    have r0 := M9.2.1 0 _ rfl
    have r1 := M9.2.1 1 _ rfl
    have r2 := M9.2.1 2 _ rfl
    have r3 := M9.2.1 3 _ rfl
    refine bodyPost_ret (v := .tuple #[zSt, .iface 91 (.pointer (some ⟨b, 0, none⟩))]) (by simp [results, Tryz.results74, go_sem, zSt, r0, r1, r2, r3]) rfl (⟨e9, .inr (.inl ⟨b, rfl, by rw [hE.out], by omega, FA.onlyP on (fun h => by have h : b = w.heap.size + 1 := h; omega)⟩)⟩)
  have k1 : (s.l == 0) = false := by simp [k0]
  by_cases k2 : s.l - 1 = 0
  case neg =>
    have hE := hide (hX.out k0 k2)
    have k3 : (s.l - 1 == 0) = false := by simp only [beq_eq_false_iff_ne]; exact k2
    have hlo : 0 ≤ s.l := hs.2.2.2.2.2.1
    have hhi : s.l ≤ 100 := hs.2.2.2.2.2.2
    clear hY hZ hX k0 k2 RF
    go_enter Tryz.func74, Tryz.ntmps74
    go_wp2_with fail
    have e9 : Below w.heap.size w ((w.alloc (.cells #[.slice ca s.C.n kc, .slice ra s.R.n kr, .slice ha s.h kh, .int .i64 (s.l - 1)] 34)).alloc (.cells #[.slice ca s.C.n kc, .slice ra s.R.n kr, .slice ha s.h kh, .int .i64 (s.l - 1)] 34)) := below_box2 (Below.refl _ _)
    have M9 := Mut.new (w.alloc (.cells #[.slice ca s.C.n kc, .slice ra s.R.n kr, .slice ha s.h kh, .int .i64 (s.l - 1)] 34)) #[.slice ca s.C.n kc, .slice ra s.R.n kr, .slice ha s.h kh, .int .i64 (s.l - 1)] 34
    simp only [World.size_alloc] at M9
    have b9 := hb.trans (e9.mono hb.size)
    have r0 := M9.2.1 0 _ rfl
    have r1 := M9.2.1 1 _ rfl
    have r2 := M9.2.1 2 _ rfl
    have r3 := M9.2.1 3 _ rfl
    refine bodyPost_ret (v := .tuple #[.agg #[.slice ca s.C.n kc, .slice ra s.R.n kr, .slice ha s.h kh, .int .i64 (s.l - 1)], .nilIface]) (by simp [results, Tryz.results74, go_sem, r0, r1, r2, r3]) rfl (⟨e9, .inl ⟨_, rfl, by rw [hE.out], by rw [hE.out]; exact Stb.old (fun w' b => RowSt.below (s := ⟨s.C, s.R, s.h, s.H, s.l - 1⟩) ⟨ca, kc, ra, kr, ha, kh, rfl, R1, R2, R3, R4⟩ b) b9⟩⟩)
  have hE := hide (hY.out k0 k2)
  have k3 : (s.l - 1 == 0) = true := by simp only [beq_iff_eq]; exact k2
  have hlo : 0 ≤ s.l := hs.2.2.2.2.2.1
  have hhi : s.l ≤ 100 := hs.2.2.2.2.2.2
  have hh := hs.2.2.1
  obtain ⟨b0, off, a0, c0, hva, hbw, u0, R0⟩ := R3 0 (by omega)
  subst hva
  rw [Nat.add_zero] at u0
  have NW := hide (fun w hb hc => i_newest ca s.C.n kc ra s.R.n kr b0 off s.h kh 0 a0 (s.H 0).n c0 w hh hb hc)
  clear hY hZ hX k0 RF M1 M2 d1
  have M1 := (Mut.new w #[.slice ca s.C.n kc, .slice ra s.R.n kr, .slice (some ⟨b0, off, none⟩) s.h kh, .int .i64 0] 34).alloc (.cells #[.slice none 0 0, .slice none 0 0, .slice none 0 0, .int .i64 0] 34)
  have M2 := Mut.new (w.alloc (.cells #[.slice ca s.C.n kc, .slice ra s.R.n kr, .slice (some ⟨b0, off, none⟩) s.h kh, .int .i64 0] 34)) #[.slice none 0 0, .slice none 0 0, .slice none 0 0, .int .i64 0] 34
  have d1 : Below w.heap.size w ((w.alloc (.cells #[.slice ca s.C.n kc, .slice ra s.R.n kr, .slice (some ⟨b0, off, none⟩) s.h kh, .int .i64 0] 34)).alloc (.cells #[.slice none 0 0, .slice none 0 0, .slice none 0 0, .int .i64 0] 34)) := below_box2 (Below.refl _ _)
  simp only [World.size_alloc] at M2
  go_enter Tryz.func74, Tryz.ntmps74
  go_wp2_with fail
  generalize ((w.alloc (.cells #[.slice ca s.C.n kc, .slice ra s.R.n kr, .slice (some ⟨b0, off, none⟩) s.h kh, .int .i64 0] 34)).alloc (.cells #[.slice none 0 0, .slice none 0 0, .slice none 0 0, .int .i64 0] 34)) = wa at *
  refine (NW.out _ (Nat.lt_of_lt_of_le hbw (hb.trans (d1.mono hb.size)).size) (((hb.trans (d1.mono hb.size)).cell (p := ⟨b0, off, none⟩) hbw).trans u0)).mono ?_
  rintro e wb ⟨rfl, bb⟩
  replace M1 := M1.below bb
  replace M2 := M2.below bb
  replace d1 := d1.trans (bb.mono d1.size)
  clear bb NW
  have v0 := M1.2.1 0 _ rfl
  have v1 := M1.2.1 1 _ rfl
  have v2 := M1.2.1 2 _ rfl
  have v3 := M1.2.1 3 _ rfl
  have f1 := M1.2.2 1 (by simp)
  have dS := d1.setCell (p := ⟨w.heap.size, 1, none⟩) (Nat.le_refl _) (.slice a0 (s.H 0).n c0)
  have MS := M1.set 1 (.slice a0 (s.H 0).n c0)
  have MT := M2.other (c := w.heap.size) (by omega) 1 (.slice a0 (s.H 0).n c0)
  go_wp2_with fail
  clear v0 v1 v2 v3 f1 M1 M2 d1
  generalize wb.setCell ⟨w.heap.size, 1, none⟩ (.slice a0 (s.H 0).n c0) = w1 at *
  have M1 := MS
  have M2 := MT
  have d1 := dS
  clear MS MT dS
  replace M1 : Mut w1 w.heap.size [.slice ca s.C.n kc, .slice a0 (s.H 0).n c0, .slice (some ⟨b0, off, none⟩) s.h kh, .int .i64 0] := M1
  have G1 := hG.below d1
  have hw1 : w.heap.size + 1 < w1.heap.size := M2.1
  have hS : ∀ w' : World, Below w1.heap.size w1 w' → w'.cell? ⟨w.heap.size, 0, none⟩ = some (.slice ca s.C.n kc) ∧ w'.cell? ⟨w.heap.size, 1, none⟩ = some (.slice a0 (s.H 0).n c0) ∧ w'.cell? ⟨w.heap.size, 2, none⟩ = some (.slice (some ⟨b0, off, none⟩) s.h kh) ∧ w'.cell? ⟨w.heap.size, 3, none⟩ = some (.int .i64 0) ∧ w'.cell? ⟨0, 0, none⟩ = some (.iface 173 (.pointer (some gl))) := fun w' b => ⟨(M1.below b).2.1 0 _ rfl, (M1.below b).2.1 1 _ rfl, (M1.below b).2.1 2 _ rfl, (M1.below b).2.1 3 _ rfl, (G1.below b).1⟩
  refine wp_region_held_drew (S := fun w' => w'.cell? ⟨w.heap.size, 0, none⟩ = some (.slice ca s.C.n kc) ∧ w'.cell? ⟨w.heap.size, 1, none⟩ = some (.slice a0 (s.H 0).n c0) ∧ w'.cell? ⟨w.heap.size, 2, none⟩ = some (.slice (some ⟨b0, off, none⟩) s.h kh) ∧ w'.cell? ⟨w.heap.size, 3, none⟩ = some (.int .i64 0) ∧ w'.cell? ⟨0, 0, none⟩ = some (.iface 173 (.pointer (some gl)))) (by kernel_rfl) (hS _ (Below.refl _ _).drew) (fun hHeld => ?_)
  refine wpAnyH_take (i := 0) (v := .agg #[.slice none 0 0, .slice none 0 0, .slice none 0 0, .int .i64 0]) rfl (by kernel_rfl) (by kernel_rfl) (by kernel_rfl) (fun _ _ _ h => h) (Or.inl ⟨by rfl, fun w' hSw => by go_simp⟩) hHeld ?_
  simp only [List.getElem_toArray, List.getElem_cons_zero, Act.put, List.setIfInBounds_toArray, List.set_cons_zero, List.set_cons_succ]
  refine wpAnyH_take (i := 1) (v := .iface 173 (.pointer (some gl))) rfl (by kernel_rfl) (by kernel_rfl) (by kernel_rfl) (fun _ _ _ h => h) (Or.inl ⟨by rfl, fun w' hSw => by go_simp⟩) hHeld ?_
  simp only [List.getElem_toArray, List.getElem_cons_succ, List.getElem_cons_zero, Act.put, List.setIfInBounds_toArray, List.set_cons_zero, List.set_cons_succ]
  refine wpAnyH_take (i := 2) (v := .agg #[.slice ca s.C.n kc, .slice a0 (s.H 0).n c0, .slice (some ⟨b0, off, none⟩) s.h kh, .int .i64 0]) rfl (by kernel_rfl) (by kernel_rfl) (by kernel_rfl) (fun _ _ _ h => h) (Or.inl ⟨by rfl, fun w' hSw => by go_simp⟩) hHeld ?_
  simp only [List.getElem_toArray, List.getElem_cons_succ, List.getElem_cons_zero, Act.put, List.setIfInBounds_toArray, List.set_cons_zero, List.set_cons_succ]
  refine wpAnyH_take (i := 3) (v := .agg #[.iface 173 (.pointer (some gl)), .slice ca s.C.n kc, .slice a0 (s.H 0).n c0, .slice (some ⟨b0, off, none⟩) s.h kh, .int .i64 0]) rfl (by kernel_rfl) (by kernel_rfl) (by kernel_rfl) (fun _ _ _ h => h) (Or.inl ⟨by rfl, fun w' hSw => by go_simp⟩) hHeld ?_
  simp only [List.getElem_toArray, List.getElem_cons_succ, List.getElem_cons_zero, Act.put, List.setIfInBounds_toArray, List.set_cons_zero, List.set_cons_succ]
  refine wpAnyH_ready (rs := [4, 6]) (by kernel_rfl) (by simp) (AllReadyH.cons rfl (fun K hK => ?_) (AllReadyH.cons rfl (fun K hK => ?_) AllReadyH.nil))
  · skip
    go_simp
    have bA : Below w1.heap.size w1 (w1.drew.alloc (.cells #[.iface 173 (.pointer (some gl)), .slice ca s.C.n kc, .slice a0 (s.H 0).n c0, .slice (some ⟨b0, off, none⟩) s.h kh, .int .i64 0] 95)) := (Below.refl _ _).drew.alloc (Nat.le_refl _) _
    have N := Mut.new w1.drew #[.iface 173 (.pointer (some gl)), .slice ca s.C.n kc, .slice a0 (s.H 0).n c0, .slice (some ⟨b0, off, none⟩) s.h kh, .int .i64 0] 95
    refine hK.out _ _ (hS _ bA) (fun hHeld => ?_)
    clear hK K
    refine wpAnyH_take (i := 5) (v := .iface 91 (.pointer (some ⟨w1.heap.size, 0, none⟩))) rfl (by kernel_rfl) (by kernel_rfl) (by kernel_rfl) (fun _ _ _ h => h) (Or.inl ⟨by rfl, fun w' hSw => by go_simp⟩) hHeld ?_
    simp only [List.getElem_toArray, List.getElem_cons_succ, List.getElem_cons_zero, Act.put, List.setIfInBounds_toArray, List.set_cons_zero, List.set_cons_succ]
    refine wpAnyH_ready (rs := [6]) (by kernel_rfl) (by simp) (AllReadyH.cons rfl (fun K hK => ?_) AllReadyH.nil)
    rw [if_pos (by rfl)]
    refine wp_storeM (us := [.slice none 0 0, .slice none 0 0, .slice none 0 0, .int .i64 0]) rfl rfl rfl (M2.below bA) rfl (by intro v hv; simp only [List.mem_cons, List.not_mem_nil, or_false] at hv; rcases hv with rfl | rfl | rfl | rfl <;> rfl) sizeSto ?_
    intro w9 M9 o9
    have on := OnlyP.of_only (P := fun x => x = w.heap.size + 1) o9 rfl
    have e9 : Below w.heap.size w w9 := (d1.trans (bA.mono d1.size)).trans (on.below (base := w.heap.size) (fun x _ hx => by have h : x = w.heap.size + 1 := hx; omega) (d1.trans (bA.mono d1.size)).size)
    have M9b := (M1.below bA).onlyP on (fun h => by have h : w.heap.size = w.heap.size + 1 := h; omega)
    have g9 := (on.cell (b := 0) (o := 0) (Nat.lt_of_lt_of_le (by have := G1.2.2.2.2.2.2; omega) bA.size) (fun h => by have h : 0 = w.heap.size + 1 := h; have := hG.2.2.2.2.2.2; omega)).trans ((G1.below bA).1)
    have q9 := on.2.2.2.1
    have q8 := (bA).size
    refine hK.out _ _ (⟨M9b.2.1 0 _ rfl, M9b.2.1 1 _ rfl, M9b.2.1 2 _ rfl, M9b.2.1 3 _ rfl, g9⟩) (fun hHeld => ?_)
    clear hK K
    refine wpAnyH_take (i := 7) (v := .iface 91 (.pointer (some ⟨w1.heap.size, 0, none⟩))) rfl (by kernel_rfl) (by kernel_rfl) (by kernel_rfl) (fun _ _ _ h => h) (Or.inl ⟨by rfl, fun w' hSw => by go_simp⟩) hHeld ?_
    simp only [List.getElem_toArray, List.getElem_cons_succ, List.getElem_cons_zero, Act.put, List.setIfInBounds_toArray, List.set_cons_zero, List.set_cons_succ]
    replace N := N.onlyP on (fun h => by have h : w1.drew.heap.size = w.heap.size + 1 := h; have h0 : w1.drew.heap.size = w1.heap.size := rfl; omega)
    have r0 := M9.2.1 0 _ rfl
    have r1 := M9.2.1 1 _ rfl
    have r2 := M9.2.1 2 _ rfl
    have r3 := M9.2.1 3 _ rfl
    refine wpAnyH_done (by kernel_rfl) ?_ _
    clear hHeld
    go_wp2_with fail
    exact bodyPost_ret (v := .tuple #[zSt, .iface 91 (.pointer (some ⟨w1.heap.size, 0, none⟩))]) (by simp [results, Tryz.results74, go_sem, zSt, r0, r1, r2, r3]) rfl ⟨e9, .inr (.inr ⟨_, ⟨s.C, s.H 0, s.h, s.H, 0⟩, rfl, by rw [hE.out], by omega, ⟨ca, kc, a0, c0, _, kh, N, ca, kc, a0, c0, _, kh, rfl, R1, R0, R3, R4⟩⟩)⟩
  · skip
    have bD : Below w1.heap.size w1 w1.drew := (Below.refl _ _).drew
    rw [if_pos (by rfl)]
    refine wp_storeM (us := [.slice none 0 0, .slice none 0 0, .slice none 0 0, .int .i64 0]) rfl rfl rfl (M2.below bD) rfl (by intro v hv; simp only [List.mem_cons, List.not_mem_nil, or_false] at hv; rcases hv with rfl | rfl | rfl | rfl <;> rfl) sizeSto ?_
    intro w9 M9 o9
    have on := OnlyP.of_only (P := fun x => x = w.heap.size + 1) o9 rfl
    have e9 : Below w.heap.size w w9 := (d1.trans (bD.mono d1.size)).trans (on.below (base := w.heap.size) (fun x _ hx => by have h : x = w.heap.size + 1 := hx; omega) (d1.trans (bD.mono d1.size)).size)
    have M9b := (M1.below bD).onlyP on (fun h => by have h : w.heap.size = w.heap.size + 1 := h; omega)
    have g9 := (on.cell (b := 0) (o := 0) (Nat.lt_of_lt_of_le (by have := G1.2.2.2.2.2.2; omega) bD.size) (fun h => by have h : 0 = w.heap.size + 1 := h; have := hG.2.2.2.2.2.2; omega)).trans ((G1.below bD).1)
    have q9 := on.2.2.2.1
    have q8 := (bD).size
    refine hK.out _ _ (⟨M9b.2.1 0 _ rfl, M9b.2.1 1 _ rfl, M9b.2.1 2 _ rfl, M9b.2.1 3 _ rfl, g9⟩) (fun hHeld => ?_)
    clear hK K
    refine wpAnyH_ready (rs := [4]) (by kernel_rfl) (by simp) (AllReadyH.cons rfl (fun K hK => ?_) AllReadyH.nil)
    go_simp
    have bA : Below w9.heap.size w9 (w9.alloc (.cells #[.iface 173 (.pointer (some gl)), .slice ca s.C.n kc, .slice a0 (s.H 0).n c0, .slice (some ⟨b0, off, none⟩) s.h kh, .int .i64 0] 95)) := below_box (Below.refl _ _)
    have N := Mut.new w9 #[.iface 173 (.pointer (some gl)), .slice ca s.C.n kc, .slice a0 (s.H 0).n c0, .slice (some ⟨b0, off, none⟩) s.h kh, .int .i64 0] 95
    replace M9 := M9.below bA
    have e10 := e9.trans (bA.mono e9.size)
    refine hK.out _ _ (⟨(M9b.below bA).2.1 0 _ rfl, (M9b.below bA).2.1 1 _ rfl, (M9b.below bA).2.1 2 _ rfl, (M9b.below bA).2.1 3 _ rfl, ((bcell bA).1 _ _ (World.block_lt_of_cell? w9 _ g9)).trans g9⟩) (fun hHeld => ?_)
    clear hK K
    refine wpAnyH_take (i := 5) (v := .iface 91 (.pointer (some ⟨w9.heap.size, 0, none⟩))) rfl (by kernel_rfl) (by kernel_rfl) (by kernel_rfl) (fun _ _ _ h => h) (Or.inl ⟨by rfl, fun w' hSw => by go_simp⟩) hHeld ?_
    simp only [List.getElem_toArray, List.getElem_cons_succ, List.getElem_cons_zero, Act.put, List.setIfInBounds_toArray, List.set_cons_zero, List.set_cons_succ]
    refine wpAnyH_take (i := 7) (v := .iface 91 (.pointer (some ⟨w9.heap.size, 0, none⟩))) rfl (by kernel_rfl) (by kernel_rfl) (by kernel_rfl) (fun _ _ _ h => h) (Or.inl ⟨by rfl, fun w' hSw => by go_simp⟩) hHeld ?_
    simp only [List.getElem_toArray, List.getElem_cons_succ, List.getElem_cons_zero, Act.put, List.setIfInBounds_toArray, List.set_cons_zero, List.set_cons_succ]
    have r0 := M9.2.1 0 _ rfl
    have r1 := M9.2.1 1 _ rfl
    have r2 := M9.2.1 2 _ rfl
    have r3 := M9.2.1 3 _ rfl
    refine wpAnyH_done (by kernel_rfl) ?_ _
    clear hHeld
    go_wp2_with fail
    exact bodyPost_ret (v := .tuple #[zSt, .iface 91 (.pointer (some ⟨w9.heap.size, 0, none⟩))]) (by simp [results, Tryz.results74, go_sem, zSt, r0, r1, r2, r3]) rfl ⟨e10, .inr (.inr ⟨_, ⟨s.C, s.H 0, s.h, s.H, 0⟩, rfl, by rw [hE.out], by omega, ⟨ca, kc, a0, c0, _, kh, N, ca, kc, a0, c0, _, kh, rfl, R1, R0, R3, R4⟩⟩)⟩
end Go.Proofs.YtnficndeblkjhaaGreatDoor
