/- Leaves copied, by the specification. -/
import Derived.Test.YtnficndeblkjhaaGreatDoorGrp3
import Derived.Lib.SliceRun
import Derived.Deep.RegionHeld3
namespace Go.Proofs.YtnficndeblkjhaaGreatDoor
open Go.RowKit

set_option maxRecDepth 100000 in
set_option maxHeartbeats 3200000 in
theorem s_own15 (a : Option Addr) (N c : Nat) (T : Nat → Lf) (w : World) (hN : N ≤ 1048576) (hl : ∀ i, i < N → 1 ≤ (T i).n ∧ (T i).n ≤ 1048576) (hR : RowF false a N T w) :
    Calls Tryz.prog 56 #[.slice a N c] w fun e w' => ∃ v, e = .returned v ∧ ∃ L, LsF w.heap.size v L w' ∧ L.map (·.t) = lsF N T ∧ Below w.heap.size w w' := by
  go_enter Tryz.func56, Tryz.ntmps56
  go_wp2_with fail
  go_loopw [3, 5, 8] (fun x _ y wr => ∃ (k : Nat) (L : List El15), y = .int .i64 k ∧ k ≤ N ∧ L.length = k ∧ LsF w.heap.size x L wr ∧ Hid (L.map (·.t) = lsF k T) ∧ Below w.heap.size w wr) (fun _ _ y _ => N - (intOf y).toNat)
  case atStart => exact ⟨0, [], rfl, Nat.zero_le _, rfl, LsF.nil _ _, rfl, Below.refl _ _⟩
  case round =>
    obtain ⟨k, L, rfl, hk, hLk, LL, hm, hb⟩ := hrel
    by_cases hlt : k < N
    · obtain ⟨b0, off, a0, c0, rfl, hbw, u0, u1, _, R0⟩ := hR k hlt
      replace u0 := (hb.cell (p := ⟨b0, off + k * 2, none⟩) hbw).trans u0
      replace u1 := (hb.cell (p := ⟨b0, off + k * 2 + 1, none⟩) hbw).trans u1
      have hlt' : (k : Int) < (N : Int) := by omega
      obtain ⟨l0, l1⟩ := hl k hlt
      have hmN := hide (fun (x q : Nat) => (show (L ++ [(⟨T k, x, q⟩ : El15)]).map (·.t) = lsF (k + 1) T by rw [lsF_succ, List.map_append, hm.out]; rfl))
      have M := Mut.new wr #[.slice a0 (T k).n c0, .string (T k).v] 87
      have bB : Below wr.heap.size wr (wr.alloc (.cells #[.slice a0 (T k).n c0, .string (T k).v] 87)) := below_box (Below.refl _ _)
      have d1 := below_step hb bB
      have LL1 := hide (LL.below bB)
      have hob : Hid (∀ b, u3.ownBlock = some b → b < wr.heap.size) := fun b hq => (ownW_lt LL.1 hq).2
      have hxl : Hid (∀ z, z ∈ L → z.x < wr.heap.size) := fun z hz => LL.lt hz
      have R0 := hide (R0.below d1)
      have hbs := d1.size
      have hws := hb.size
      clear hm hl hR LL bB hb
      generalize T k = t at *
      obtain ⟨tn, tp, tv⟩ := t
      dsimp only at *
      go_wp2_with fail
      generalize wr.alloc (.cells #[.slice a0 tn c0, .string tv] 87) = w1 at *
      have hbx : wr.heap.size < w1.heap.size := M.1
      generalize wr.heap.size = bx at *
      clear u0 u1
      have k0 := M.2.1 0 _ rfl
      have k1 := M.2.1 1 _ rfl
      have hkW : w1.cell? ⟨bx, 0, none⟩ = some (.slice a0 tn c0) ∧ w1.cell? ⟨bx, 1, none⟩ = some (.string tv) := ⟨k0, k1⟩
      have KP := hide (fun w' (h : Mut w' bx [.slice a0 tn c0, .string tv]) => And.intro (h.2.1 0 _ rfl) (h.2.1 1 _ rfl))
      have h1c : Hid (∀ (x q : Nat), ∀ u ∈ ([.slice (some ⟨x, 0, none⟩) tn q, .string tv] : List Value), u.oneCell' = true) := fun x q => elf_one ⟨⟨tn, tp, tv⟩, x, q⟩
      have hlen9 : Hid (L.length + 1 ≤ 8589934593) := by show _ ≤ _; omega
      have vob : Hid (u3.ownBlock ≠ some bx) := fun e => by have := hob.out _ e; omega
      have own0 : OwnT 9 w1.heap.size (.slice (some ⟨w1.heap.size, 0, none⟩) 0 0) [] (w1.alloc (.cells #[] 9)) := by simpa [tcells] using ownT_made 9 w1 [] (by simp)
      have own0d : OwnT 9 w1.heap.size (.slice (some ⟨w1.heap.size, 0, none⟩) 0 0) [] (w1.drew.alloc (.cells #[] 9)) := by simpa [tcells] using ownT_made 9 w1.drew [] (by simp)
      have hl15 := hide (listS_len tn tp)
      have hl16 : Hid (([] : List ByteArray).length + (listS tn tp).length ≤ 8589934593) := by show _ ≤ _; rw [hl15.out]; simp; omega
      have srcW : SrcT a0 (listS tn tp) c0 w1 := by
        obtain ⟨ba, oa, ha0, _, _⟩ := R0.out 0 l0
        exact ⟨RowT.of_str R0.out, .inr ⟨ba, oa, ha0⟩⟩
      have src0 := srcW.below (below_box (o := .cells #[] 9) (Below.refl _ _))
      have q1d : Below w1.drew.heap.size w1.drew (w1.drew.alloc (.cells #[] 9)) := below_box (Below.refl _ _)
      have src0d : SrcT a0 (listS tn tp) c0 (w1.drew.alloc (.cells #[] 9)) := srcW.below ((Below.refl w1.heap.size w1).drew.trans q1d)
      go_region_held3 (fun w' => w'.cell? ⟨bx, 0, none⟩ = some (.slice a0 tn c0) ∧ w'.cell? ⟨bx, 1, none⟩ = some (.string tv)) (first | with_reducible exact hk9 | with_reducible exact hkC | with_reducible exact hkW | go_keep)
        (first
          | (have hq := LLC; refine step_appW leafT (by rfl) _ _ (by rfl) w.heap.size u3 L.length (efs L) (by rfl) (by first | with_reducible exact ownW_below ownC (below_box (Below.refl _ _)) | with_reducible exact ownW_below ownC (below_box (Below.refl _ _)).drew) wC.heap.size 0 1 1 [.slice (some ⟨g, 0, none⟩) tn cap, .string tv] (by rfl) (by rfl) (by first | with_reducible exact RowW.mut (Mut.new wC _ _) | with_reducible exact (RowW.mut (Mut.new wC _ _)).below (Below.refl _ _).drew) (h1c.out g cap) hlen9.out (by decide) (by first | exact Nat.le_trans hbC (below_box (Below.refl _ _)).size | (simp; omega)) ?_; intro v9 w9 own9 b9 gr9 ob9; replace own9 : OwnW 87 2 w.heap.size v9 (L.length + 1) (efs L ++ elf ⟨⟨tn, tp, tv⟩, g, cap⟩) w9 := own9; have d9 : Below w.heap.size wC w9 := (by first | exact ((below_box (Below.refl _ _)).mono hbC).trans b9 | exact ((below_box (Below.refl _ _)).drew.mono hbC).trans b9); have hk9 := KP.out w9 (by first | with_reducible exact ((M.below dC).below (below_box (Below.refl _ _))).grown15 gr9 vob.out | with_reducible exact ((M.below dC).below (below_box (Below.refl _ _)).drew).grown15 gr9 vob.out); have L9 : LsF w.heap.size v9 (L ++ [⟨⟨tn, tp, tv⟩, g, cap⟩]) w9 := (by first | with_reducible exact (LLC.below (below_box (Below.refl _ _))).push (e := ⟨⟨tn, tp, tv⟩, g, cap⟩) hgb hcap (oC.below (below_box (Below.refl _ _))) hzC hvC own9 gr9 ob9 | with_reducible exact (LLC.below (below_box (Below.refl _ _)).drew).push (e := ⟨⟨tn, tp, tv⟩, g, cap⟩) hgb hcap (oC.below (below_box (Below.refl _ _)).drew) hzC hvC own9 gr9 ob9))
          | (have hq := R0; refine step_appT strT (by rfl) _ _ (by rfl) w1.heap.size _ [] (by rfl) (by first | with_reducible exact own0 | with_reducible exact ownT_below own0 (Below.refl _ _).drew | exact own0d) a0 (listS tn tp) tn c0 (by rfl) hl15.out.symm (by first | with_reducible exact src0 | with_reducible exact src0.below (Below.refl _ _).drew | exact src0d) hl16.out (by decide) (by simp) ?_; intro v8 wC own8 b8 _ _; rw [List.nil_append] at own8; obtain ⟨g, cap, rfl, hcap, hg, oC⟩ := ownT_outS own8 l0; have dC : Below w1.heap.size w1 wC := (by first | exact (below_box (Below.refl _ _)).trans b8 | exact ((below_box (Below.refl _ _)).trans (Below.refl _ _).drew).trans b8 | exact (Below.refl _ _).drew.trans ((below_box (Below.refl _ _)).trans b8)); have hgb : w.heap.size ≤ g := Nat.le_trans hbs hg; have hkC := KP.out _ (M.below dC); have LLC := LL1.out.below dC; have ownC := LLC.1; have hbC : w.heap.size ≤ wC.heap.size := Nat.le_trans hbs dC.size; have hzC : ∀ z, z ∈ L → z.x ≠ g := (fun z hz => by have := hxl.out z hz; omega); have hvC : u3.ownBlock ≠ some g := (fun e => by have := hob.out _ e; omega)))
      all_goals
        have D9 : Below w.heap.size w w9 := d1.trans ((dC.mono d1.size).trans d9)
        have hmN := hmN.out g cap
        clear hk9 hkW k0 k1 d9 gr9 ob9 own9 ownC LLC oC dC hzC hvC hg hcap hob hxl KP M LL1
        go_wp2_with fail
        exact ⟨⟨k + 1, _, by go_num, by omega, by simp [hLk], L9, hmN, D9⟩, by simp [intOf]; omega⟩
    · have hlt' : ¬ (k : Int) < (N : Int) := by omega
      obtain rfl : k = N := by omega
      have hm := hm.out
      go_wp2_with fail
      go_ret
      exact ⟨_, rfl, L, LL, hm, hb⟩
end Go.Proofs.YtnficndeblkjhaaGreatDoor
