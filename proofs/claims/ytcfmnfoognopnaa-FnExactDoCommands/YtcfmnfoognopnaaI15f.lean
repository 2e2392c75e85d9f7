/- DeleteAt of the program. -/
import Derived.Test.YtcfmnfoognopnaaI15d
import Derived.Test.YtcfmnfoognopnaaFlt15
import Derived.Test.YtcfmnfoognopnaaOwn15i
namespace Go.Proofs.Ytcfmnfoognopnaa
open Go.RowKit

set_option maxRecDepth 100000 in
set_option maxHeartbeats 3200000 in
theorem i_deleteAt (a : Option Addr) (N c : Nat) (T : Nat → Lf) (a1 : Option Addr) (n c1 : Nat) (p : Nat → ByteArray) (w : World) (hN : N ≤ 1048576) (hl : LowF N T) (hR : RowF true a N T w) (Q0 : RowStr a1 n p w) :
    Calls Try.prog 70 #[.slice a N c, .slice a1 n c1] w fun e w' => ∃ v, e = .returned (.tuple #[v, .bool (delA N T n p).2]) ∧ ∃ L, LsF w.heap.size v L w' ∧ L.map (·.t) = (delA N T n p).1 ∧ Below w.heap.size w w' := by
  have hY : Hid (GC N T → Pw n p → (if (delL N T n p).length = N then ([], false) else (delL N T n p, true)) = delA N T n p) := fun h g => by
    unfold delA
    by_cases e : (delL N T n p).length = N
    · rw [if_pos e, if_neg (by simp [tB_f (fun k : GC N T ∧ Pw n p ∧ (delL N T n p).length ≠ N => k.2.2 e)])]
    · rw [if_neg e, if_pos (tB_t ⟨h, g, e⟩)]
  have hZ : Hid (¬ (GC N T ∧ Pw n p ∧ (delL N T n p).length ≠ N) → delA N T n p = ([], false)) := fun h => if_neg (by simp [tB_f h])
  have G := hide (fun w R => i_goodConfig a N c T w hN hl R)
  have W := hide (fun w R => i_isWay a1 n c1 p w R)
  generalize delA N T n p = GA at *
  go_enter Try.func70, Try.ntmps70
  go_wp2_with fail
  refine (G.out _ hR).mono ?_
  rintro e w1 ⟨rfl, b1⟩
  by_cases hg : GC N T
  case neg =>
    rw [tB_f hg]
    have hE := hide (hZ.out (fun h => hg h.1))
    clear hY hZ
    go_wp2_with fail
    exact bodyPost_ret (v := .tuple #[.slice none 0 0, .bool GA.2]) (by rw [hE.out]; simp [results, Try.results70, go_sem]) rfl ⟨_, rfl, [], LsF.nil _ _, by rw [hE.out]; rfl, b1⟩
  rw [tB_t hg]
  go_wp2_with fail
  refine (W.out _ (Q0.below b1)).mono ?_
  rintro e w2 ⟨rfl, b2⟩
  have d2 := below_step b1 b2
  clear b1 b2 G W
  by_cases hp : Pw n p
  case neg =>
    rw [tB_f hp]
    have hE := hide (hZ.out (fun h => hp h.2.1))
    clear hY hZ
    go_wp2_with fail
    exact bodyPost_ret (v := .tuple #[.slice none 0 0, .bool GA.2]) (by rw [hE.out]; simp [results, Try.results70, go_sem]) rfl ⟨_, rfl, [], LsF.nil _ _, by rw [hE.out]; rfl, d2⟩
  rw [tB_t hp]
  have hn30 : N ≤ 30 := hg.2
  have hT1 : Hid (∀ i, i < N → 1 ≤ (T i).n ∧ (T i).n ≤ 5) := fun i hi => ⟨(hg.1 i hi).1.1, (hg.1 i hi).1.2.1⟩
  have hn5 : 1 ≤ n ∧ n ≤ 5 := ⟨hp.1, hp.2.1⟩
  replace hY := hide (hY.out hg hp)
  have OW := hide (fun a c M T w h1 h2 R => i_ownLeaves a M c T w h1 h2 R)
  clear hZ hp hg
  go_wp2_with fail
  go_loopw [6, 8, 19] (fun x _ y wr => ∃ (k : Nat) (M : List Al15), y = .int .i64 k ∧ k ≤ N ∧ M.length ≤ k ∧ AlF w.heap.size x M w wr ∧ Hid (M.map (·.t) = flt15 (fun i => ¬ Bg n p (T i).n (T i).p) T k) ∧ Below w.heap.size w wr) (fun _ _ y _ => N - (intOf y).toNat)
  case atStart => exact ⟨0, [], rfl, Nat.zero_le _, Nat.le_refl _, AlF.nil _ _ _, rfl, d2⟩
  case round =>
    clear d2
    obtain ⟨k, M, rfl, hk, hMk, AL, hm, hb⟩ := hrel
    by_cases hlt : k < N
    · obtain ⟨b0, off, a0, c0, rfl, hbw, u0, u1, hc0, R0⟩ := hR k hlt
      replace u0 := (hb.cell (p := ⟨b0, off + k * 2, none⟩) hbw).trans u0
      replace u1 := (hb.cell (p := ⟨b0, off + k * 2 + 1, none⟩) hbw).trans u1
      replace hc0 := hc0 rfl
      have hlt' : (k : Int) < (N : Int) := by omega
      have lk := (hl k hlt).1
      have MB := Mut.new wr #[.slice a0 (T k).n c0, .string (T k).v] 63
      have bB : Below wr.heap.size wr (wr.alloc (.cells #[.slice a0 (T k).n c0, .string (T k).v] 63)) := below_box (Below.refl _ _)
      have d1 := below_step hb bB
      have AL1 := AL.below bB
      have S := hide (fun w R Q => i_begins a0 a1 (T k).n n c0 c1 (T k).p p w lk hc0 R Q)
      have hbs := hb.size
      by_cases hs : Bg n p (T k).n (T k).p
      · rw [tB_t hs] at S
        have hmN : Hid (M.map (·.t) = flt15 (fun i => ¬ Bg n p (T i).n (T i).p) T (k + 1)) := hm.out.trans (flt15_no (P := fun i => ¬ Bg n p (T i).n (T i).p) (fun h => h hs)).symm
        clear hm hs hR hl AL bB hb hY OW hT1
        generalize T k = t at *
        obtain ⟨tn, tp, tv⟩ := t
        dsimp only at *
        go_wp2_with fail
        generalize wr.alloc (.cells #[.slice a0 tn c0, .string tv] 63) = w1 at *
        generalize wr.heap.size = bx at *
        refine (S.out _ (R0.below d1) (Q0.below d1)).mono ?_
        rintro e w3 ⟨rfl, b3⟩
        have d3 := d1.trans (b3.mono d1.size)
        replace AL1 := AL1.below b3
        clear b3 d1 u0 u1 MB
        go_wp2_with fail
        exact ⟨⟨k + 1, M, by go_num, by omega, by omega, AL1, hmN, d3⟩, by simp [intOf]; omega⟩
      · rw [tB_f hs] at S
        have hmN : Hid ((M ++ [(⟨T k, a0, c0⟩ : Al15)]).map (·.t) = flt15 (fun i => ¬ Bg n p (T i).n (T i).p) T (k + 1)) := by
          show _ = _
          rw [flt15_yes (P := fun i => ¬ Bg n p (T i).n (T i).p) hs, List.map_append, hm.out]; rfl
        clear hm hs hR hl AL bB hb hY OW hT1
        generalize T k = t at *
        obtain ⟨tn, tp, tv⟩ := t
        dsimp only at *
        go_wp2_with fail
        generalize wr.alloc (.cells #[.slice a0 tn c0, .string tv] 63) = w1 at *
        generalize wr.heap.size = bx at *
        refine (S.out _ (R0.below d1) (Q0.below d1)).mono ?_
        rintro e w3 ⟨rfl, b3⟩
        have d3 := d1.trans (b3.mono d1.size)
        replace AL1 := AL1.below b3
        replace MB := MB.below b3
        have q0 := MB.2.1 0 _ rfl
        have q1 := MB.2.1 1 _ rfl
        clear b3 d1 u0 u1
        have own3 := AL1.1
        have own4 := ownW_below own3 (below_box (o := .cells #[.slice a0 tn c0, .string tv] 63) (Below.refl _ _))
        have h1c : Hid (∀ u ∈ ([.slice a0 tn c0, .string tv] : List Value), u.oneCell' = true) := alf_one ⟨⟨tn, tp, tv⟩, a0, c0⟩
        have hlen9 : Hid (M.length + 1 ≤ 8589934593) := by show _ ≤ _; omega
        have hbb := d3.size
        have dA : Below w.heap.size w (w3.alloc (.cells #[.slice a0 tn c0, .string tv] 63)) := below_step d3 (below_box (Below.refl _ _))
        have hba := dA.size
        have RA : RowW (some ⟨w3.heap.size, 0, none⟩) [.slice a0 tn c0, .string tv] (w3.alloc (.cells #[.slice a0 tn c0, .string tv] 63)) := RowW.mut (Mut.new w3 _ _)
        generalize hLM : M.length = LM at *
        generalize hAM : afs M = AM at *
        go_wp2_with (first | (at_builtin; refine wpList_appW leafT rfl _ _ rfl w.heap.size _ LM AM rfl own4 w3.heap.size 0 1 1 [.slice a0 tn c0, .string tv] rfl rfl RA h1c.out hlen9.out (by decide) hba ?_; intro v9 w9 own9 b9 _ _))
        subst hLM hAM
        have D9 := dA.trans b9
        have L9 := AL1.push ⟨⟨tn, tp, tv⟩, a0, c0⟩ hc0 R0 (show OwnW 63 2 w.heap.size v9 (M.length + 1) (afs M ++ alf ⟨⟨tn, tp, tv⟩, a0, c0⟩) w9 from own9)
        clear own9 own4 own3 RA dA b9 q0 q1 AL1 MB h1c
        go_wp2_with fail
        exact ⟨⟨k + 1, M ++ [⟨⟨tn, tp, tv⟩, a0, c0⟩], by go_num, by omega, by simp; omega, L9, hmN, D9⟩, by simp [intOf]; omega⟩
    · have hlt' : ¬ (k : Int) < (N : Int) := by omega
      obtain rfl : k = N := by omega
      obtain ⟨va, vc, rfl, hrow⟩ := AL.row hb
      have hm2 : M.map (·.t) = delL k T n p := hm.out
      have hlm : M.length = (delL k T n p).length := by rw [← hm2]; simp
      have hmem : ∀ i, i < M.length → 1 ≤ (TF (M.map (·.t)) i).n ∧ (TF (M.map (·.t)) i).n ≤ 1048576 := fun i hi => by
        have h1 : TF (M.map (·.t)) i ∈ delL k T n p := by
          rw [← hm2, TF_eq (by simpa using hi)]
          exact List.getElem_mem _
        obtain ⟨j, hj, _, he⟩ := flt15_mem h1
        rw [he]
        have := hT1.out j hj
        omega
      by_cases e : M.length = k
      · have hE := hide (hY.out.symm.trans (if_pos (hlm.symm.trans e)))
        have k0 : ((M.length : Int) == (k : Int)) = true := by simp [e]
        clear hm hm2 hlm hmem hR hl AL hY OW hT1 hrow e
        go_wp2_with fail
        exact bodyPost_ret (v := .tuple #[.slice none 0 0, .bool GA.2]) (by rw [hE.out]; simp [results, Try.results70, go_sem]) rfl ⟨_, rfl, [], LsF.nil _ _, by rw [hE.out]; rfl, hb⟩
      · have hE := hide (hY.out.symm.trans (if_neg (fun q => e (hlm.trans q))))
        have k0 : ((M.length : Int) == (k : Int)) = false := by simp; omega
        have OW := hide (OW.out va vc M.length (TF (M.map (·.t))) wr (by omega) hmem hrow.any)
        have hmt : Hid (lsF M.length (TF (M.map (·.t))) = delL k T n p) := by
          show _ = _
          rw [← hm2]
          apply List.ext_getElem (by simp [lsF])
          intro i h1 h2
          simp only [lsF, List.getElem_map, List.getElem_range]
          rw [TF_eq (by simpa using h2)]
          simp
        clear hm hm2 hlm hmem hR hl AL hY hT1 hrow e
        go_wp2_with fail
        refine (OW.out).mono ?_
        rintro e w4 ⟨v, rfl, L, L4, hL4, b4⟩
        have d4 := below_step hb b4
        have L5 := L4.base hb.size
        have hL5 := hL4.trans hmt.out
        go_wp2_with fail
        exact bodyPost_ret (v := .tuple #[v, .bool GA.2]) (by rw [hE.out]; simp [results, Try.results70, go_sem]) rfl ⟨_, rfl, L, L5, by rw [hE.out]; exact hL5, d4⟩
end Go.Proofs.Ytcfmnfoognopnaa
