/- Under of the program. -/
import Derived.Test.YthkooojjhagkeaaI15f
import Derived.Test.YthkooojjhagkeaaDrop15
import Derived.Deep.RegionHeld3
namespace Go.Proofs.Ythkooojjhagkeaa
open Go.RowKit

set_option maxRecDepth 100000 in
set_option maxHeartbeats 3200000 in
theorem i_under (a : Option Addr) (N c : Nat) (T : Nat → Lf) (a1 : Option Addr) (n c1 : Nat) (p : Nat → ByteArray) (w : World) (hN : N ≤ 1048576) (hl : LowF N T) (hR : RowF true a N T w) (Q0 : RowStr a1 n p w) :
    Calls Try.prog 19 #[.slice a N c, .slice a1 n c1] w fun e w' => ∃ v, e = .returned (.tuple #[v, .bool (undA N T n p).2]) ∧ ∃ L, LsF w.heap.size v L w' ∧ L.map (·.t) = (undA N T n p).1 ∧ Below w.heap.size w w' := by
  have hY : Hid (GC N T → Pw n p → (undL N T n p, decide (0 < (undL N T n p).length)) = undA N T n p) := fun h g => by
    unfold undA
    rw [if_pos (tB_t ⟨h, g⟩)]
  have hZ : Hid (¬ (GC N T ∧ Pw n p) → undA N T n p = ([], false)) := fun h => if_neg (by simp [tB_f h])
  have G := hide (fun w R => i_goodConfig a N c T w hN hl R)
  have W := hide (fun w R => i_isWay a1 n c1 p w R)
  generalize undA N T n p = GA at *
  go_enter Try.func19, Try.ntmps19
  go_wp2_with fail
  refine (G.out _ hR).mono ?_
  rintro e w1 ⟨rfl, b1⟩
  by_cases hg : GC N T
  case neg =>
    rw [tB_f hg]
    have hE := hide (hZ.out (fun h => hg h.1))
    clear hY hZ
    go_wp2_with fail
    exact bodyPost_ret (v := .tuple #[.slice none 0 0, .bool GA.2]) (by rw [hE.out]; simp [results, Try.results19, go_sem]) rfl ⟨_, rfl, [], LsF.nil _ _, by rw [hE.out]; rfl, b1⟩
  rw [tB_t hg]
  go_wp2_with fail
  refine (W.out _ (Q0.below b1)).mono ?_
  rintro e w2 ⟨rfl, b2⟩
  have d2 := below_step b1 b2
  clear b1 b2 G W
  by_cases hp : Pw n p
  case neg =>
    rw [tB_f hp]
    have hE := hide (hZ.out (fun h => hp h.2))
    clear hY hZ
    go_wp2_with fail
    exact bodyPost_ret (v := .tuple #[.slice none 0 0, .bool GA.2]) (by rw [hE.out]; simp [results, Try.results19, go_sem]) rfl ⟨_, rfl, [], LsF.nil _ _, by rw [hE.out]; rfl, d2⟩
  rw [tB_t hp]
  have hn30 : N ≤ 30 := hg.2
  have hT1 : Hid (∀ i, i < N → 1 ≤ (T i).n ∧ (T i).n ≤ 5) := fun i hi => ⟨(hg.1 i hi).1.1, (hg.1 i hi).1.2.1⟩
  have hn5 : 1 ≤ n ∧ n ≤ 5 := ⟨hp.1, hp.2.1⟩
  replace hY := hide (hY.out hg hp)
  have OW := hide (fun a c M T w h1 h2 R => i_ownLeaves a M c T w h1 h2 R)
  clear hZ hp hg
  go_wp2_with fail
  go_loopw [6, 8, 19] (fun x _ y wr => ∃ (k : Nat) (M : List Al15), y = .int .i64 k ∧ k ≤ N ∧ M.length ≤ k ∧ AlF w.heap.size x M w wr ∧ Hid (M.map (·.t) = flt15 (fun i => n < (T i).n ∧ Bg n p (T i).n (T i).p) (fun i => cutF n (T i)) k) ∧ Below w.heap.size w wr) (fun _ _ y _ => N - (intOf y).toNat)
  case atStart => exact ⟨0, [], rfl, Nat.zero_le _, Nat.le_refl _, AlF.nil _ _ _, rfl, d2⟩
  case round =>
    clear d2
    obtain ⟨k, M, rfl, hk, hMk, AL, hm, hb⟩ := hrel
    by_cases hlt : k < N
    · obtain ⟨b0, off, a0, c0, rfl, hbw, u0, u1, hc0, R0⟩ := hR k hlt
      replace u0 := (hb.cell (p := ⟨b0, off + k * 2, none⟩) hbw).trans u0
      replace u1 := (hb.cell (p := ⟨b0, off + k * 2 + 1, none⟩) hbw).trans u1
      replace hc0 := hc0 rfl
      have hlt' : (k : Int) < (N : Int) := by omega
      have lk := (hl k hlt).1
      have MB := Mut.new wr #[.slice a0 (T k).n c0, .string (T k).v] 48
      have bB : Below wr.heap.size wr (wr.alloc (.cells #[.slice a0 (T k).n c0, .string (T k).v] 48)) := below_box (Below.refl _ _)
      have d1 := below_step hb bB
      have AL1 := AL.below bB
      have S := hide (fun w R Q => i_begins a0 a1 (T k).n n c0 c1 (T k).p p w lk hc0 R Q)
      have hbs := hb.size
      have hob : Hid (∀ b, u6.ownBlock = some b → b < wr.heap.size) := fun b hq => (ownW_lt AL.1 hq).2
      by_cases hs0 : n < (T k).n
      case neg =>
        have hs := hs0
        have kn : ¬ (((T k).n : Int) > (n : Int)) := by omega
        have hmN : Hid (M.map (·.t) = flt15 (fun i => n < (T i).n ∧ Bg n p (T i).n (T i).p) (fun i => cutF n (T i)) (k + 1)) := hm.out.trans (flt15_no (P := (fun i => n < (T i).n ∧ Bg n p (T i).n (T i).p)) (fun h => hs0 h.1)).symm
        clear hs0
        clear hm hs hR hl AL bB hb hY OW hT1
        generalize T k = t at *
        obtain ⟨tn, tp, tv⟩ := t
        dsimp only at *
        go_wp2_with fail
        generalize wr.alloc (.cells #[.slice a0 tn c0, .string tv] 48) = w1 at *
        generalize wr.heap.size = bx at *
        replace MB := MB
        clear MB u0 u1
        have d3 := d1
        go_wp2_with fail
        exact ⟨⟨k + 1, M, by go_num, by omega, by omega, AL1, hmN, d3⟩, by simp [intOf]; omega⟩
      have kn : (((T k).n : Int) > (n : Int)) := by omega
      by_cases hs : Bg n p (T k).n (T k).p
      case neg =>
        rw [tB_f hs] at S
        have hmN : Hid (M.map (·.t) = flt15 (fun i => n < (T i).n ∧ Bg n p (T i).n (T i).p) (fun i => cutF n (T i)) (k + 1)) := hm.out.trans (flt15_no (P := (fun i => n < (T i).n ∧ Bg n p (T i).n (T i).p)) (fun h => hs h.2)).symm
        clear hm hs hR hl AL bB hb hY OW hT1
        generalize T k = t at *
        obtain ⟨tn, tp, tv⟩ := t
        dsimp only at *
        go_wp2_with fail
        generalize wr.alloc (.cells #[.slice a0 tn c0, .string tv] 48) = w1 at *
        generalize wr.heap.size = bx at *
        refine (S.out _ (R0.below d1) (Q0.below d1)).mono ?_
        rintro e w3 ⟨rfl, b3⟩
        have d3 := d1.trans (b3.mono d1.size)
        replace AL1 := AL1.below b3
        replace MB := MB.below b3
        clear b3 d1 u0 u1 MB
        go_wp2_with fail
        exact ⟨⟨k + 1, M, by go_num, by omega, by omega, AL1, hmN, d3⟩, by simp [intOf]; omega⟩
      rw [tB_t hs] at S
      have hmN : Hid (∀ (a : Option Addr) (c : Nat), (M ++ [(⟨cutF n (T k), a, c⟩ : Al15)]).map (·.t) = flt15 (fun i => n < (T i).n ∧ Bg n p (T i).n (T i).p) (fun i => cutF n (T i)) (k + 1)) := fun a c => by
        rw [flt15_yes (P := (fun i => n < (T i).n ∧ Bg n p (T i).n (T i).p)) ⟨hs0, hs⟩, List.map_append, hm.out]; rfl
      obtain ⟨b2, off2, rfl, hb2, _⟩ := R0 0 (by omega)
      have RC := R0.drop15 n
      clear hm hs hR hl AL bB hb hY OW hT1
      generalize T k = t at *
      obtain ⟨tn, tp, tv⟩ := t
      dsimp only at *
      go_wp2_with fail
      generalize wr.alloc (.cells #[.slice (some ⟨b2, off2, none⟩) tn c0, .string tv] 48) = w1 at *
      generalize wr.heap.size = bx at *
      refine (S.out _ (R0.below d1) (Q0.below d1)).mono ?_
      rintro e w3 ⟨rfl, b3⟩
      have d3 := d1.trans (b3.mono d1.size)
      replace AL1 := AL1.below b3
      replace MB := MB.below b3
      clear b3 d1 u0 u1
      have hip : (n : Int) < (tn : Int) := by omega
      have hipl : (n : Int) ≤ (tn : Int) := by omega
      have hpc : (tn : Int) ≤ (c0 : Int) := by omega
      have hci : c0 ≠ n := by omega
      have k0 := MB.2.1 0 _ rfl
      have k1 := MB.2.1 1 _ rfl
      go_wp2_with fail
      have hkW : w3.cell? ⟨bx, 0, none⟩ = some (.slice (some ⟨b2, off2, none⟩) tn c0) ∧ w3.cell? ⟨bx, 1, none⟩ = some (.string tv) := ⟨k0, k1⟩
      have KP := hide (fun w' (h : Mut w' bx [.slice (some ⟨b2, off2, none⟩) tn c0, .string tv]) => And.intro (h.2.1 0 _ rfl) (h.2.1 1 _ rfl))
      have vob : Hid (u6.ownBlock ≠ some bx) := fun e => by have := hob.out _ e; omega
      have own3 := AL1.1
      have hbb := d3.size
      have h1c : Hid (∀ u ∈ ([.slice (some ⟨b2, off2 + n, none⟩) (tn - n) (c0 - n), .string tv] : List Value), u.oneCell' = true) := alf_one ⟨cutF n ⟨tn, tp, tv⟩, some ⟨b2, off2 + n, none⟩, c0 - n⟩
      have hlen9 : Hid (M.length + 1 ≤ 8589934593) := by show _ ≤ _; omega
      go_region_held3 (fun w' => w'.cell? ⟨bx, 0, none⟩ = some (.slice (some ⟨b2, off2, none⟩) tn c0) ∧ w'.cell? ⟨bx, 1, none⟩ = some (.string tv)) (first | with_reducible exact hk9 | with_reducible exact hkW | go_keep)
        ((refine step_appW leafT (by rfl) _ _ (by rfl) w.heap.size u6 M.length (afs M) (by rfl) (by first | with_reducible exact ownW_below own3 (below_box (Below.refl _ _)) | with_reducible exact ownW_below own3 (below_box (Below.refl _ _)).drew) w3.heap.size 0 1 1 [.slice (some ⟨b2, off2 + n, none⟩) (tn - n) (c0 - n), .string tv] (by rfl) (by rfl) (by first | with_reducible exact RowW.mut (Mut.new w3 _ _) | with_reducible exact (RowW.mut (Mut.new w3 _ _)).below (Below.refl _ _).drew) h1c.out hlen9.out (by decide) (by first | exact Nat.le_trans hbb (below_box (Below.refl _ _)).size | (simp; omega)) ?_; intro v9 w9 own9 b9 gr9 ob9; have d9 : Below w.heap.size w3 w9 := (by first | exact ((below_box (Below.refl _ _)).mono hbb).trans b9 | exact ((below_box (Below.refl _ _)).drew.mono hbb).trans b9); have hk9 := KP.out w9 (by first | with_reducible exact (MB.below (below_box (Below.refl _ _))).grown15 gr9 vob.out | with_reducible exact (MB.below (below_box (Below.refl _ _)).drew).grown15 gr9 vob.out)))
      all_goals
        have D9 : Below w.heap.size w w9 := d3.trans d9
        have L9 := AL1.push ⟨cutF n ⟨tn, tp, tv⟩, some ⟨b2, off2 + n, none⟩, c0 - n⟩ (by show tn - n ≤ c0 - n; omega) RC (show OwnW 48 2 w.heap.size v9 (M.length + 1) (afs M ++ alf ⟨cutF n ⟨tn, tp, tv⟩, some ⟨b2, off2 + n, none⟩, c0 - n⟩) w9 from own9)
        have hmN := hmN.out (some ⟨b2, off2 + n, none⟩) (c0 - n)
        clear hk9 hkW k0 k1 d9 gr9 ob9 own9 own3 hob KP MB AL1 h1c
        go_wp2_with fail
        exact ⟨⟨k + 1, _, by go_num, by omega, by simp; omega, L9, hmN, D9⟩, by simp [intOf]; omega⟩
    · have hlt' : ¬ (k : Int) < (N : Int) := by omega
      obtain rfl : k = N := by omega
      obtain ⟨va, vc, rfl, hrow⟩ := AL.row hb
      have hm2 : M.map (·.t) = undL k T n p := hm.out
      have hlm : M.length = (undL k T n p).length := by rw [← hm2]; simp
      have hmem : ∀ i, i < M.length → 1 ≤ (TF (M.map (·.t)) i).n ∧ (TF (M.map (·.t)) i).n ≤ 1048576 := fun i hi => by
        have h1 : TF (M.map (·.t)) i ∈ undL k T n p := by
          rw [← hm2, TF_eq (by simpa using hi)]
          exact List.getElem_mem _
        obtain ⟨j, hj, hpj, he⟩ := flt15_mem h1
        rw [he]
        have h2 := hT1.out j hj
        have h3 := hpj.1
        have h4 : (cutF n (T j)).n = (T j).n - n := rfl
        omega
      have OW := hide (OW.out va vc M.length (TF (M.map (·.t))) wr (by omega) hmem hrow.any)
      have hmt : Hid (lsF M.length (TF (M.map (·.t))) = undL k T n p) := by
        show _ = _
        rw [← hm2]
        apply List.ext_getElem (by simp [lsF])
        intro i h1 h2
        simp only [lsF, List.getElem_map, List.getElem_range]
        rw [TF_eq (by simpa using h2)]
        simp
      have hE0 := hide hY.out.symm
      have hlm2 := hide hlm
      clear hm hm2 hlm hmem hR hl AL hY hT1 hrow
      have hML : (M.length : Int) ≤ 30 := by omega
      go_wp2_with fail
      refine (OW.out).mono ?_
      rintro e w4 ⟨v, rfl, L, L4, hL4, b4⟩
      have d4 := below_step hb b4
      have L5 := L4.base hb.size
      have hL5 := hide (hL4.trans hmt.out)
      clear L4 hL4 b4 OW hmt
      go_wp2_with fail
      refine bodyPost_ret (v := .tuple #[v, .bool GA.2]) ?_ rfl ⟨_, rfl, L, L5, by rw [hE0.out]; exact hL5.out, d4⟩
      have hd : decide (((M.length : Int)) > 0) = decide (0 < (undL k T n p).length) := by
        rw [← hlm2.out]
        simp
      rw [hE0.out]
      simp only [results, Try.results19]
      simp [go_sem, ← hlm2.out]
end Go.Proofs.Ythkooojjhagkeaa
