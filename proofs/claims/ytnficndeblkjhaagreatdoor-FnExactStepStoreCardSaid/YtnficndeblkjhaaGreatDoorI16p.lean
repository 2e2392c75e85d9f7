/- The methods of a store that make no list. -/
import Derived.Test.YtnficndeblkjhaaGreatDoorGrp5
import Derived.Test.YtnficndeblkjhaaGreatDoorI16a
namespace Go.Proofs.YtnficndeblkjhaaGreatDoor
open Go.RowKit

/-- What a method answers, where r is what should come: a store, or a fault (refused, or lapsed). -/
def MetP (gl gr : Addr) (w0 : World) (base : Nat) (s : Sto) (r : Sto × Bool) (w : World) (e : Ending) (w' : World) : Prop := Below w.heap.size w w' ∧
  ((∃ v, e = .returned (.tuple #[v, .nilIface]) ∧ r.2 = true ∧ Stb w0.heap.size base (RowSt true v r.1) w') ∨
   (∃ b, e = .returned (.tuple #[zSt, .iface 91 (.pointer (some ⟨b, 0, none⟩))]) ∧ r = (s, false) ∧ base ≤ b ∧ FltAt b (.iface 173 (.pointer (some gr))) s w0 w') ∨
   (∃ b s', e = .returned (.tuple #[zSt, .iface 91 (.pointer (some ⟨b, 0, none⟩))]) ∧ r = (s', true) ∧ base ≤ b ∧ FltAt b (.iface 173 (.pointer (some gl))) s' w0 w'))
set_option maxRecDepth 100000 in
set_option maxHeartbeats 1600000 in
theorem i_discarded (v : Value) (s : Sto) (w0 w : World) (hb : Below w0.heap.size w0 w) (hR : RowSt true v s w0) :
    Calls Tryz.prog 73 #[v] w fun e w' => ∃ v', e = .returned v' ∧ Stb w0.heap.size w.heap.size (RowSt true v' ⟨s.R, s.R, s.h, s.H, s.l⟩) w' ∧ Below w.heap.size w w' := by
  obtain ⟨ca, kc, ra, kr, ha, kh, rfl, R1, R2, R3, R4⟩ := hR
  have hRS : RowSt true (stV s ca kc ra kr ha kh) s w0 := ⟨ca, kc, ra, kr, ha, kh, rfl, R1, R2, R3, R4⟩
  unfold stV
  unfold stV at hRS
  have M1 := (Mut.new w #[.slice ca s.C.n kc, .slice ra s.R.n kr, .slice ha s.h kh, .int .i64 s.l] 34).alloc (.cells #[.slice none 0 0, .slice none 0 0, .slice none 0 0, .int .i64 0] 34)
  have M2 := Mut.new (w.alloc (.cells #[.slice ca s.C.n kc, .slice ra s.R.n kr, .slice ha s.h kh, .int .i64 s.l] 34)) #[.slice none 0 0, .slice none 0 0, .slice none 0 0, .int .i64 0] 34
  have d1 : Below w.heap.size w ((w.alloc (.cells #[.slice ca s.C.n kc, .slice ra s.R.n kr, .slice ha s.h kh, .int .i64 s.l] 34)).alloc (.cells #[.slice none 0 0, .slice none 0 0, .slice none 0 0, .int .i64 0] 34)) := below_box2 (Below.refl _ _)
  simp only [World.size_alloc] at M2
  go_enter Tryz.func73, Tryz.ntmps73
  go_wp2_with fail
  have e9 : Below w.heap.size w ((w.alloc (.cells #[.slice ra s.R.n kr, .slice ra s.R.n kr, .slice ha s.h kh, .int .i64 s.l] 34)).alloc (.cells #[.slice ra s.R.n kr, .slice ra s.R.n kr, .slice ha s.h kh, .int .i64 s.l] 34)) := below_box2 (Below.refl _ _)
  have M9 := Mut.new (w.alloc (.cells #[.slice ra s.R.n kr, .slice ra s.R.n kr, .slice ha s.h kh, .int .i64 s.l] 34)) #[.slice ra s.R.n kr, .slice ra s.R.n kr, .slice ha s.h kh, .int .i64 s.l] 34
  simp only [World.size_alloc] at M9
  have b9 := hb.trans (e9.mono hb.size)
  have r0 := M9.2.1 0 _ rfl
  have r1 := M9.2.1 1 _ rfl
  have r2 := M9.2.1 2 _ rfl
  have r3 := M9.2.1 3 _ rfl
  refine bodyPost_ret (v := .agg #[.slice ra s.R.n kr, .slice ra s.R.n kr, .slice ha s.h kh, .int .i64 s.l]) (by simp [results, Tryz.results73, go_sem, r0, r1, r2, r3]) rfl (⟨_, rfl, Stb.old (fun w' b => RowSt.below (s := ⟨s.R, s.R, s.h, s.H, s.l⟩) ⟨ra, kr, ra, kr, ha, kh, rfl, R2, R2, R3, R4⟩ b) b9, e9⟩)
set_option maxRecDepth 100000 in
set_option maxHeartbeats 1600000 in
theorem i_rolledBack (v : Value) (s : Sto) (gl gr : Addr) (w0 w : World) (hG : GW gl gr w) (hb : Below w0.heap.size w0 w) (hR : RowSt true v s w0) (N : Int) :
    Calls Tryz.prog 72 #[v, .int .i64 N] w (MetP gl gr w0 w.heap.size s (if 0 ≤ N ∧ N < s.h then (⟨s.H N.toNat, s.R, s.h, s.H, s.l⟩, true) else (s, false)) w) := by
  obtain ⟨ca, kc, ra, kr, ha, kh, rfl, R1, R2, R3, R4⟩ := hR
  have hRS : RowSt true (stV s ca kc ra kr ha kh) s w0 := ⟨ca, kc, ra, kr, ha, kh, rfl, R1, R2, R3, R4⟩
  unfold stV
  unfold stV at hRS
  have M1 := (Mut.new w #[.slice ca s.C.n kc, .slice ra s.R.n kr, .slice ha s.h kh, .int .i64 s.l] 34).alloc (.cells #[.slice none 0 0, .slice none 0 0, .slice none 0 0, .int .i64 0] 34)
  have M2 := Mut.new (w.alloc (.cells #[.slice ca s.C.n kc, .slice ra s.R.n kr, .slice ha s.h kh, .int .i64 s.l] 34)) #[.slice none 0 0, .slice none 0 0, .slice none 0 0, .int .i64 0] 34
  have d1 : Below w.heap.size w ((w.alloc (.cells #[.slice ca s.C.n kc, .slice ra s.R.n kr, .slice ha s.h kh, .int .i64 s.l] 34)).alloc (.cells #[.slice none 0 0, .slice none 0 0, .slice none 0 0, .int .i64 0] 34)) := below_box2 (Below.refl _ _)
  simp only [World.size_alloc] at M2
  have RF := hide (fun W (hG : GW gl gr W) => i_refused (.agg #[.slice ca s.C.n kc, .slice ra s.R.n kr, .slice ha s.h kh, .int .i64 s.l]) s gl gr w0 W hG hRS)
  have hY : Hid (0 ≤ N → N < s.h → (if 0 ≤ N ∧ N < s.h then (⟨s.H N.toNat, s.R, s.h, s.H, s.l⟩, true) else (s, false)) = (⟨s.H N.toNat, s.R, s.h, s.H, s.l⟩, true)) := fun a b => if_pos ⟨a, b⟩
  have hZ : Hid (¬ (0 ≤ N ∧ N < s.h) → (if 0 ≤ N ∧ N < s.h then (⟨s.H N.toNat, s.R, s.h, s.H, s.l⟩, true) else (s, false)) = (s, false)) := fun a => if_neg a
  generalize (if 0 ≤ N ∧ N < s.h then (⟨s.H N.toNat, s.R, s.h, s.H, s.l⟩, true) else (s, false)) = GA at *
  by_cases k1 : N < 0
  · have hE := hide (hZ.out (by omega))
    clear hY hZ
    go_enter Tryz.func72, Tryz.ntmps72
    go_wp2_with fail
    refine (RF.out _ (hG.below (d1))).mono ?_
    rintro e w2 ⟨b, rfl, hbb, FA, bb⟩
    have d2 := (d1).trans (bb.mono (d1).size)
    have M22 := (M2).below bb
    have hbk : w.heap.size + 1 < b := by have h := (M2).1; have h2 : ((w.alloc (.cells #[.slice ca s.C.n kc, .slice ra s.R.n kr, .slice ha s.h kh, .int .i64 s.l] 34)).alloc (.cells #[.slice none 0 0, .slice none 0 0, .slice none 0 0, .int .i64 0] 34)).heap.size ≤ b := hbb; omega
    clear bb
    unfold zSt
    go_wp2_with (refine wpList_storeM (us := [.slice none 0 0, .slice none 0 0, .slice none 0 0, .int .i64 0]) rfl rfl rfl rfl M22 rfl (by intro v hv; simp only [List.mem_cons, List.not_mem_nil, or_false] at hv; rcases hv with rfl | rfl | rfl | rfl <;> rfl) sizeSto ?_; intro w9 M9 o9)
    have on := OnlyP.of_only (P := fun x => x = w.heap.size + 1) o9 rfl
    have q9 := on.2.2.2.1
    have e9 := (d2).trans (on.below (base := w.heap.size) (fun x _ hx => by have h : x = w.heap.size + 1 := hx; omega) (d2).size)
    have b9 := hb.trans (e9.mono hb.size)
    have r0 := M9.2.1 0 _ rfl
    have r1 := M9.2.1 1 _ rfl
    have r2 := M9.2.1 2 _ rfl
    have r3 := M9.2.1 3 _ rfl
    refine bodyPost_ret (v := .tuple #[zSt, .iface 91 (.pointer (some ⟨b, 0, none⟩))]) (by simp [results, Tryz.results72, go_sem, zSt, r0, r1, r2, r3]) rfl (⟨e9, .inr (.inl ⟨b, rfl, by rw [hE.out], by omega, FA.onlyP on (fun h => by have h : b = w.heap.size + 1 := h; omega)⟩)⟩)
  by_cases k2 : N < s.h
  case neg =>
    have hE := hide (hZ.out (by omega))
    have k3 : N ≥ (s.h : Int) := by omega
    clear hY hZ
    go_enter Tryz.func72, Tryz.ntmps72
    go_wp2_with fail
    refine (RF.out _ (hG.below (d1))).mono ?_
    rintro e w2 ⟨b, rfl, hbb, FA, bb⟩
    have d2 := (d1).trans (bb.mono (d1).size)
    have M22 := (M2).below bb
    have hbk : w.heap.size + 1 < b := by have h := (M2).1; have h2 : ((w.alloc (.cells #[.slice ca s.C.n kc, .slice ra s.R.n kr, .slice ha s.h kh, .int .i64 s.l] 34)).alloc (.cells #[.slice none 0 0, .slice none 0 0, .slice none 0 0, .int .i64 0] 34)).heap.size ≤ b := hbb; omega
    clear bb
    unfold zSt
    go_wp2_with (refine wpList_storeM (us := [.slice none 0 0, .slice none 0 0, .slice none 0 0, .int .i64 0]) rfl rfl rfl rfl M22 rfl (by intro v hv; simp only [List.mem_cons, List.not_mem_nil, or_false] at hv; rcases hv with rfl | rfl | rfl | rfl <;> rfl) sizeSto ?_; intro w9 M9 o9)
    have on := OnlyP.of_only (P := fun x => x = w.heap.size + 1) o9 rfl
    have q9 := on.2.2.2.1
    have e9 := (d2).trans (on.below (base := w.heap.size) (fun x _ hx => by have h : x = w.heap.size + 1 := hx; omega) (d2).size)
    have b9 := hb.trans (e9.mono hb.size)
    have r0 := M9.2.1 0 _ rfl
    have r1 := M9.2.1 1 _ rfl
    have r2 := M9.2.1 2 _ rfl
    have r3 := M9.2.1 3 _ rfl
    refine bodyPost_ret (v := .tuple #[zSt, .iface 91 (.pointer (some ⟨b, 0, none⟩))]) (by simp [results, Tryz.results72, go_sem, zSt, r0, r1, r2, r3]) rfl (⟨e9, .inr (.inl ⟨b, rfl, by rw [hE.out], by omega, FA.onlyP on (fun h => by have h : b = w.heap.size + 1 := h; omega)⟩)⟩)
  obtain ⟨n, rfl⟩ : ∃ n : Nat, N = n := ⟨N.toNat, by omega⟩
  have hE := hide (hY.out (by omega) k2)
  rw [Int.toNat_natCast] at hE
  have k3 : ¬ ((n : Int) ≥ (s.h : Int)) := by omega
  clear hY hZ RF
  obtain ⟨b0, off, a0, c0, hva, hbw, u0, R0⟩ := R3 n (by omega)
  subst hva
  have dB := hb.trans (d1.mono hb.size)
  replace u0 := (dB.cell (p := ⟨b0, off + n, none⟩) hbw).trans u0
  go_enter Tryz.func72, Tryz.ntmps72
  go_wp2_with fail
  have e9 : Below w.heap.size w ((w.alloc (.cells #[.slice a0 (s.H n).n c0, .slice ra s.R.n kr, .slice (some ⟨b0, off, none⟩) s.h kh, .int .i64 s.l] 34)).alloc (.cells #[.slice a0 (s.H n).n c0, .slice ra s.R.n kr, .slice (some ⟨b0, off, none⟩) s.h kh, .int .i64 s.l] 34)) := below_box2 (Below.refl _ _)
  have M9 := Mut.new (w.alloc (.cells #[.slice a0 (s.H n).n c0, .slice ra s.R.n kr, .slice (some ⟨b0, off, none⟩) s.h kh, .int .i64 s.l] 34)) #[.slice a0 (s.H n).n c0, .slice ra s.R.n kr, .slice (some ⟨b0, off, none⟩) s.h kh, .int .i64 s.l] 34
  simp only [World.size_alloc] at M9
  have b9 := hb.trans (e9.mono hb.size)
  have r0 := M9.2.1 0 _ rfl
  have r1 := M9.2.1 1 _ rfl
  have r2 := M9.2.1 2 _ rfl
  have r3 := M9.2.1 3 _ rfl
  refine bodyPost_ret (v := .tuple #[.agg #[.slice a0 (s.H n).n c0, .slice ra s.R.n kr, .slice (some ⟨b0, off, none⟩) s.h kh, .int .i64 s.l], .nilIface]) (by simp [results, Tryz.results72, go_sem, r0, r1, r2, r3]) rfl (⟨e9, .inl ⟨_, rfl, by rw [hE.out], by rw [hE.out]; exact Stb.old (fun w' b => RowSt.below (s := ⟨s.H n, s.R, s.h, s.H, s.l⟩) ⟨a0, c0, ra, kr, _, kh, rfl, R0, R2, R3, R4⟩ b) b9⟩⟩)
set_option maxRecDepth 100000 in
set_option maxHeartbeats 1600000 in
theorem i_withCandidate (v : Value) (s : Sto) (gl gr : Addr) (w0 w : World) (hG : GW gl gr w) (hb : Below w0.heap.size w0 w) (hR : RowSt true v s w0) (base : Nat) (hbase : base ≤ w.heap.size) (cN : Cf) (la : Option Addr) (lc : Nat) (is : Bool) (hL : is = true → Stb w0.heap.size base (RowF true la cN.n cN.T) w) :
    Calls Tryz.prog 66 #[v, .slice la cN.n lc, .bool is] w (MetP gl gr w0 base s (if is = true then (⟨cN, s.R, s.h, s.H, s.l⟩, true) else (s, false)) w) := by
  obtain ⟨ca, kc, ra, kr, ha, kh, rfl, R1, R2, R3, R4⟩ := hR
  have hRS : RowSt true (stV s ca kc ra kr ha kh) s w0 := ⟨ca, kc, ra, kr, ha, kh, rfl, R1, R2, R3, R4⟩
  unfold stV
  unfold stV at hRS
  have M1 := (Mut.new w #[.slice ca s.C.n kc, .slice ra s.R.n kr, .slice ha s.h kh, .int .i64 s.l] 34).alloc (.cells #[.slice none 0 0, .slice none 0 0, .slice none 0 0, .int .i64 0] 34)
  have M2 := Mut.new (w.alloc (.cells #[.slice ca s.C.n kc, .slice ra s.R.n kr, .slice ha s.h kh, .int .i64 s.l] 34)) #[.slice none 0 0, .slice none 0 0, .slice none 0 0, .int .i64 0] 34
  have d1 : Below w.heap.size w ((w.alloc (.cells #[.slice ca s.C.n kc, .slice ra s.R.n kr, .slice ha s.h kh, .int .i64 s.l] 34)).alloc (.cells #[.slice none 0 0, .slice none 0 0, .slice none 0 0, .int .i64 0] 34)) := below_box2 (Below.refl _ _)
  simp only [World.size_alloc] at M2
  have RF := hide (fun W (hG : GW gl gr W) => i_refused (.agg #[.slice ca s.C.n kc, .slice ra s.R.n kr, .slice ha s.h kh, .int .i64 s.l]) s gl gr w0 W hG hRS)
  cases is with
  | false =>
    have hE : Hid ((if false = true then (⟨cN, s.R, s.h, s.H, s.l⟩, true) else (s, false)) = (s, false)) := if_neg (by decide)
    generalize (if false = true then (⟨cN, s.R, s.h, s.H, s.l⟩, true) else (s, false)) = GA at *
    clear hL
    go_enter Tryz.func66, Tryz.ntmps66
    go_wp2_with fail
    refine (RF.out _ (hG.below (d1))).mono ?_
    rintro e w2 ⟨b, rfl, hbb, FA, bb⟩
    have d2 := (d1).trans (bb.mono (d1).size)
    have M22 := (M2).below bb
    have hbk : w.heap.size + 1 < b := by have h := (M2).1; have h2 : ((w.alloc (.cells #[.slice ca s.C.n kc, .slice ra s.R.n kr, .slice ha s.h kh, .int .i64 s.l] 34)).alloc (.cells #[.slice none 0 0, .slice none 0 0, .slice none 0 0, .int .i64 0] 34)).heap.size ≤ b := hbb; omega
    clear bb
    unfold zSt
    go_wp2_with (refine wpList_storeM (us := [.slice none 0 0, .slice none 0 0, .slice none 0 0, .int .i64 0]) rfl rfl rfl rfl M22 rfl (by intro v hv; simp only [List.mem_cons, List.not_mem_nil, or_false] at hv; rcases hv with rfl | rfl | rfl | rfl <;> rfl) sizeSto ?_; intro w9 M9 o9)
    have on := OnlyP.of_only (P := fun x => x = w.heap.size + 1) o9 rfl
    have q9 := on.2.2.2.1
    have e9 := (d2).trans (on.below (base := w.heap.size) (fun x _ hx => by have h : x = w.heap.size + 1 := hx; omega) (d2).size)
    have b9 := hb.trans (e9.mono hb.size)
    have r0 := M9.2.1 0 _ rfl
    have r1 := M9.2.1 1 _ rfl
    have r2 := M9.2.1 2 _ rfl
    have r3 := M9.2.1 3 _ rfl
    refine bodyPost_ret (v := .tuple #[zSt, .iface 91 (.pointer (some ⟨b, 0, none⟩))]) (by simp [results, Tryz.results66, go_sem, zSt, r0, r1, r2, r3]) rfl (⟨e9, .inr (.inl ⟨b, rfl, by rw [hE.out], by omega, FA.onlyP on (fun h => by have h : b = w.heap.size + 1 := h; omega)⟩)⟩)
  | true =>
    have hE : Hid ((if true = true then (⟨cN, s.R, s.h, s.H, s.l⟩, true) else (s, false)) = (⟨cN, s.R, s.h, s.H, s.l⟩, true)) := if_pos rfl
    generalize (if true = true then (⟨cN, s.R, s.h, s.H, s.l⟩, true) else (s, false)) = GA at *
    replace hL := hL rfl
    clear RF
    go_enter Tryz.func66, Tryz.ntmps66
    go_wp2_with fail
    have e9 : Below w.heap.size w ((w.alloc (.cells #[.slice la cN.n lc, .slice ra s.R.n kr, .slice ha s.h kh, .int .i64 s.l] 34)).alloc (.cells #[.slice la cN.n lc, .slice ra s.R.n kr, .slice ha s.h kh, .int .i64 s.l] 34)) := below_box2 (Below.refl _ _)
    have M9 := Mut.new (w.alloc (.cells #[.slice la cN.n lc, .slice ra s.R.n kr, .slice ha s.h kh, .int .i64 s.l] 34)) #[.slice la cN.n lc, .slice ra s.R.n kr, .slice ha s.h kh, .int .i64 s.l] 34
    simp only [World.size_alloc] at M9
    have b9 := hb.trans (e9.mono hb.size)
    have r0 := M9.2.1 0 _ rfl
    have r1 := M9.2.1 1 _ rfl
    have r2 := M9.2.1 2 _ rfl
    have r3 := M9.2.1 3 _ rfl
    refine bodyPost_ret (v := .tuple #[.agg #[.slice la cN.n lc, .slice ra s.R.n kr, .slice ha s.h kh, .int .i64 s.l], .nilIface]) (by simp [results, Tryz.results66, go_sem, r0, r1, r2, r3]) rfl (⟨e9, .inl ⟨_, rfl, by rw [hE.out], by rw [hE.out]; exact fun X oX => ⟨la, lc, ra, kr, ha, kh, rfl, (hL.below e9) X oX, R2.below (b9.trans (only_below oX b9.size)), R3.below (b9.trans (only_below oX b9.size)), R4⟩⟩⟩)
end Go.Proofs.YtnficndeblkjhaaGreatDoor
