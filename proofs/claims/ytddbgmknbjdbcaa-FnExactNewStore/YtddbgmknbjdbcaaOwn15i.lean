/- Leaves copied, by the program. -/
import Derived.Test.YtddbgmknbjdbcaaLst15
import Derived.Lib.SliceRun
import Derived.Deep.RegionHeld3
namespace Go.Proofs.Ytddbgmknbjdbcaa
open Go.RowKit

set_option maxRecDepth 100000 in
set_option maxHeartbeats 800000 in
theorem i_cloneS (a : Option Addr) (n c : Nat) (f : Nat → ByteArray) (w : World) (h0 : 1 ≤ n) (hn : n ≤ 1048576) (hR : RowStr a n f w) :
    Calls Try.prog 67 #[.slice a n c] w fun e w' => ∃ g cap, e = .returned (.slice (some ⟨g, 0, none⟩) n cap) ∧ w.heap.size ≤ g ∧ n ≤ cap ∧ OutStr g n n f w' ∧ Below w.heap.size w w' := by
  have q22 : ∀ (w : World) (a : Option Addr) (n c n' c' : Nat), (binOp .eql 62 (.slice a n c) (.slice none n' c')).run Try.prog w = .ok (.bool a.isNone) w := fun w a n c n' c' => Lib.run_eql_slice_nil w _ _ a n c n' c' Try.underlying62
  obtain ⟨b, off, rfl, _, _⟩ := hR 0 h0
  have hl := listS_len n f
  have hM : SrcT (some ⟨b, off, none⟩) (listS n f) c w := ⟨RowT.of_str hR, .inr ⟨b, off, rfl⟩⟩
  have hM2 := hM.below (below_box (o := .cells #[] 9) (Below.refl _ _))
  have own : OwnT 9 w.heap.size (.slice (some ⟨w.heap.size, 0, none⟩) 0 0) [] (w.alloc (.cells #[] 9)) := by simpa [tcells] using ownT_made 9 w [] (by simp)
  clear hR hM
  go_enter Try.func67, Try.ntmps67
  go_wp2_with (first | (at_builtin; refine wpList_appT strT (by rfl) _ _ (by rfl) w.heap.size _ [] (by rfl) own (some ⟨b, off, none⟩) (listS n f) n c (by rfl) hl.symm hM2 (by rw [hl]; simp; omega) (by decide) (by simp) ?_; intro v9 w9 own9 b9 _ _))
  rw [List.nil_append] at own9
  obtain ⟨g, cap, rfl, hc, hg, hO⟩ := ownT_outS own9 h0
  have dA : Below w.heap.size w (w.alloc (.cells #[] 9)) := below_box (Below.refl _ _)
  have d9 := dA.trans b9
  go_wp2_with fail
  go_ret
  exact ⟨g, cap, rfl, hg, hc, hO, d9⟩
set_option maxRecDepth 100000 in
set_option maxHeartbeats 3200000 in
theorem i_ownLeaves (a : Option Addr) (N c : Nat) (T : Nat → Lf) (w : World) (hN : N ≤ 1048576) (hl : ∀ i, i < N → 1 ≤ (T i).n ∧ (T i).n ≤ 1048576) (hR : RowF false a N T w) :
    Calls Try.prog 46 #[.slice a N c] w fun e w' => ∃ v, e = .returned v ∧ ∃ L, LsF w.heap.size v L w' ∧ L.map (·.t) = lsF N T ∧ Below w.heap.size w w' := by
  go_enter Try.func46, Try.ntmps46
  go_wp2_with fail
  go_loopw [3, 5, 8] (fun x _ y wr => ∃ (k : Nat) (L : List El15), y = .int .i64 k ∧ k ≤ N ∧ L.length = k ∧ LsF w.heap.size x L wr ∧ Hid (L.map (·.t) = lsF k T) ∧ Below w.heap.size w wr) (fun _ _ y _ => N - (intOf y).toNat)
  case atStart => exact ⟨0, [], rfl, Nat.zero_le _, rfl, LsF.nil _ _, rfl, Below.refl _ _⟩
  case round =>
    obtain ⟨k, L, rfl, hk, hLk, LL, hm, hb⟩ := hrel
    by_cases hlt : k < N
    · obtain ⟨b0, off, a0, c0, rfl, hbw, u0, u1, _, R0⟩ := hR k hlt
      replace u0 := (hb.cell (p := ⟨b0, off + k * 2, none⟩) hbw).trans u0
      replace u1 := (hb.cell (p := ⟨b0, off + k * 2 + 1, none⟩) hbw).trans u1
      have hlt' : (k : Int) < (N : Int) := by omega
      obtain ⟨l0, l1⟩ := hl k hlt
      have hmN := hide (fun (x q : Nat) => (show (L ++ [(⟨T k, x, q⟩ : El15)]).map (·.t) = lsF (k + 1) T by rw [lsF_succ, List.map_append, hm.out]; rfl))
      have M := Mut.new wr #[.slice a0 (T k).n c0, .string (T k).v] 64
      have bB : Below wr.heap.size wr (wr.alloc (.cells #[.slice a0 (T k).n c0, .string (T k).v] 64)) := below_box (Below.refl _ _)
      have d1 := below_step hb bB
      have LL1 := hide (LL.below bB)
      have hob : Hid (∀ b, u3.ownBlock = some b → b < wr.heap.size) := fun b hq => (ownW_lt LL.1 hq).2
      have hxl : Hid (∀ z, z ∈ L → z.x < wr.heap.size) := fun z hz => LL.lt hz
      have R0 := hide (R0.below d1)
      have hbs := d1.size
      have hws := hb.size
      clear hm hl hR LL bB hb
      generalize T k = t at *
      obtain ⟨tn, tp, tv⟩ := t
      dsimp only at *
      go_wp2_with fail
      generalize wr.alloc (.cells #[.slice a0 tn c0, .string tv] 64) = w1 at *
      have hbx : wr.heap.size < w1.heap.size := M.1
      generalize wr.heap.size = bx at *
      clear u0 u1
      have k0 := M.2.1 0 _ rfl
      have k1 := M.2.1 1 _ rfl
      have hkW : w1.cell? ⟨bx, 0, none⟩ = some (.slice a0 tn c0) ∧ w1.cell? ⟨bx, 1, none⟩ = some (.string tv) := ⟨k0, k1⟩
      have KP := hide (fun w' (h : Mut w' bx [.slice a0 tn c0, .string tv]) => And.intro (h.2.1 0 _ rfl) (h.2.1 1 _ rfl))
      have h1c : Hid (∀ (x q : Nat), ∀ u ∈ ([.slice (some ⟨x, 0, none⟩) tn q, .string tv] : List Value), u.oneCell' = true) := fun x q => elf_one ⟨⟨tn, tp, tv⟩, x, q⟩
      have hlen9 : Hid (L.length + 1 ≤ 8589934593) := by show _ ≤ _; omega
      have vob : Hid (u3.ownBlock ≠ some bx) := fun e => by have := hob.out _ e; omega
      have CL := hide (fun w R => i_cloneS a0 tn c0 tp w l0 l1 R)
      go_region_held3 (fun w' => w'.cell? ⟨bx, 0, none⟩ = some (.slice a0 tn c0) ∧ w'.cell? ⟨bx, 1, none⟩ = some (.string tv)) (first | with_reducible exact hk9 | with_reducible exact hkC | with_reducible exact hkW | go_keep)
        (first
          | (have hq := LLC; refine step_appW leafT (by rfl) _ _ (by rfl) w.heap.size u3 L.length (efs L) (by rfl) (by first | with_reducible exact ownW_below ownC (below_box (Below.refl _ _)) | with_reducible exact ownW_below ownC (below_box (Below.refl _ _)).drew) wC.heap.size 0 1 1 [.slice (some ⟨g, 0, none⟩) tn cap, .string tv] (by rfl) (by rfl) (by first | with_reducible exact RowW.mut (Mut.new wC _ _) | with_reducible exact (RowW.mut (Mut.new wC _ _)).below (Below.refl _ _).drew) (h1c.out g cap) hlen9.out (by decide) (by first | exact Nat.le_trans hbC (below_box (Below.refl _ _)).size | (simp; omega)) ?_; intro v9 w9 own9 b9 gr9 ob9; replace own9 : OwnW 64 2 w.heap.size v9 (L.length + 1) (efs L ++ elf ⟨⟨tn, tp, tv⟩, g, cap⟩) w9 := own9; have d9 : Below w.heap.size wC w9 := (by first | exact ((below_box (Below.refl _ _)).mono hbC).trans b9 | exact ((below_box (Below.refl _ _)).drew.mono hbC).trans b9); have hk9 := KP.out w9 (by first | with_reducible exact ((M.below dC).below (below_box (Below.refl _ _))).grown15 gr9 vob.out | with_reducible exact ((M.below dC).below (below_box (Below.refl _ _)).drew).grown15 gr9 vob.out); have L9 : LsF w.heap.size v9 (L ++ [⟨⟨tn, tp, tv⟩, g, cap⟩]) w9 := (by first | with_reducible exact (LLC.below (below_box (Below.refl _ _))).push (e := ⟨⟨tn, tp, tv⟩, g, cap⟩) hgb hcap (oC.below (below_box (Below.refl _ _))) hzC hvC own9 gr9 ob9 | with_reducible exact (LLC.below (below_box (Below.refl _ _)).drew).push (e := ⟨⟨tn, tp, tv⟩, g, cap⟩) hgb hcap (oC.below (below_box (Below.refl _ _)).drew) hzC hvC own9 gr9 ob9))
          | (go_at_call 67; refine (CL.out _ (by first | with_reducible exact R0.out | with_reducible exact R0.out.below (Below.refl _ _).drew)).mono ?_; rintro e wC ⟨g, cap, rfl, hg, hcap, oC, bC⟩; have dC : Below w1.heap.size w1 wC := (by first | exact bC | exact below_drew0 bC); replace hg : w1.heap.size ≤ g := (by first | exact hg | simpa using hg); have hgb : w.heap.size ≤ g := Nat.le_trans hbs hg; have hkC := KP.out _ (M.below dC); have LLC := LL1.out.below dC; have ownC := LLC.1; have hbC : w.heap.size ≤ wC.heap.size := Nat.le_trans hbs dC.size; have hzC : ∀ z, z ∈ L → z.x ≠ g := (fun z hz => by have := hxl.out z hz; omega); have hvC : u3.ownBlock ≠ some g := (fun e => by have := hob.out _ e; omega)))
      all_goals
        have D9 : Below w.heap.size w w9 := d1.trans ((dC.mono d1.size).trans d9)
        have hmN := hmN.out g cap
        clear hk9 hkW k0 k1 d9 gr9 ob9 own9 ownC LLC oC dC hzC hvC hg hcap hob hxl KP M LL1
        go_wp2_with fail
        exact ⟨⟨k + 1, _, by go_num, by omega, by simp [hLk], L9, hmN, D9⟩, by simp [intOf]; omega⟩
    · have hlt' : ¬ (k : Int) < (N : Int) := by omega
      obtain rfl : k = N := by omega
      have hm := hm.out
      go_wp2_with fail
      go_ret
      exact ⟨_, rfl, L, LL, hm, hb⟩
end Go.Proofs.Ytddbgmknbjdbcaa
