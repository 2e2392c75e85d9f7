/- DeleteAt of the specification. -/
import Derived.Test.YtnficndeblkjhaaGreatDoorGrp14
import Derived.Test.YtnficndeblkjhaaGreatDoorGrp3
import Derived.Test.YtnficndeblkjhaaGreatDoorOwn15s
namespace Go.Proofs.YtnficndeblkjhaaGreatDoor
open Go.RowKit

set_option maxRecDepth 100000 in
set_option maxHeartbeats 3200000 in
theorem s_deleteAt (a : Option Addr) (N c : Nat) (T : Nat → Lf) (a1 : Option Addr) (n c1 : Nat) (p : Nat → ByteArray) (w : World) (hN : N ≤ 1048576) (hl : LowF N T) (hn : n ≤ 1048576) (hp0 : ∀ i, i < n → (p i).size ≤ maxLen) (hR : RowF true a N T w) (Q0 : RowStr a1 n p w) :
    Calls Tryz.prog 55 #[.slice a N c, .slice a1 n c1] w fun e w' => ∃ v, e = .returned (.tuple #[v, .bool (delA N T n p).2]) ∧ ∃ L, LsF w.heap.size v L w' ∧ L.map (·.t) = (delA N T n p).1 ∧ Below w.heap.size w w' := by
  have hY : Hid (GC N T → Pw n p → (if (delL N T n p).length = N then ([], false) else (delL N T n p, true)) = delA N T n p) := fun h g => by
    unfold delA
    by_cases e : (delL N T n p).length = N
    · rw [if_pos e, if_neg (by simp [tB_f (fun k : GC N T ∧ Pw n p ∧ (delL N T n p).length ≠ N => k.2.2 e)])]
    · rw [if_neg e, if_pos (tB_t ⟨h, g, e⟩)]
  have hZ : Hid (¬ (GC N T ∧ Pw n p ∧ (delL N T n p).length ≠ N) → delA N T n p = ([], false)) := fun h => if_neg (by simp [tB_f h])
  have G := hide (fun w R => s_goodConfig a N c T w hN hl R)
  have W := hide (fun w R => s_path a1 n c1 p w hn hp0 R)
  generalize delA N T n p = GA at *
  go_enter Tryz.func55, Tryz.ntmps55
  go_wp2_with fail
  refine (G.out _ hR).mono ?_
  rintro e w1 ⟨rfl, b1⟩
  by_cases hg : GC N T
  case neg =>
    rw [tB_f hg]
    have hE := hide (hZ.out (fun h => hg h.1))
    clear hY hZ
    go_wp2_with fail
    exact bodyPost_ret (v := .tuple #[.slice none 0 0, .bool GA.2]) (by rw [hE.out]; simp [results, Tryz.results55, go_sem]) rfl ⟨_, rfl, [], LsF.nil _ _, by rw [hE.out]; rfl, b1⟩
  rw [tB_t hg]
  go_wp2_with fail
  refine (W.out _ (Q0.below b1)).mono ?_
  rintro e w2 ⟨rfl, b2⟩
  have d2 := below_step b1 b2
  clear b1 b2 G W
  by_cases hp : Pw n p
  case neg =>
    rw [tB_f hp]
    have hE := hide (hZ.out (fun h => hp h.2.1))
    clear hY hZ
    go_wp2_with fail
    exact bodyPost_ret (v := .tuple #[.slice none 0 0, .bool GA.2]) (by rw [hE.out]; simp [results, Tryz.results55, go_sem]) rfl ⟨_, rfl, [], LsF.nil _ _, by rw [hE.out]; rfl, d2⟩
  rw [tB_t hp]
  have hn30 : N ≤ 30 := hg.2
  have hT1 : Hid (∀ i, i < N → 1 ≤ (T i).n ∧ (T i).n ≤ 5) := fun i hi => ⟨(hg.1 i hi).1.1, (hg.1 i hi).1.2.1⟩
  have hn5 : 1 ≤ n ∧ n ≤ 5 := ⟨hp.1, hp.2.1⟩
  replace hY := hide (hY.out hg hp)
  have OW := hide (fun w R => s_own15 a N c T w hN (fun i hi => by have := hT1.out i hi; omega) R)
  clear hZ hp hg hp0
  go_wp2_with fail
  refine (OW.out _ (hR.below d2).any).mono ?_
  rintro e w4 ⟨v0, rfl, L0, L4, hL4, b4⟩
  have d4 := below_step d2 b4
  have hN0 : L0.length = N := by
    have := congrArg List.length hL4
    simpa [lsF] using this
  have hT0 : ∀ i (h : i < L0.length), (L0[i]).t = T i := fun i h => by
    have h1 : (L0.map (·.t))[i]? = (lsF N T)[i]? := by rw [hL4]
    rw [List.getElem?_map, List.getElem?_eq_getElem h] at h1
    unfold lsF at h1
    rw [List.getElem?_map, List.getElem?_range (by omega)] at h1
    simpa using h1
  replace L4 := L4.base d2.size
  obtain ⟨va, vc, rfl, hrow⟩ := L4.row
  rw [hN0] at hrow
  clear b4 OW hR hL4
  go_wp2_with fail
  go_loopw [6, 8, 20] (fun x _ y wr => ∃ (k : Nat) (L : List El15), y = .int .i64 k ∧ k ≤ N ∧ L.length ≤ k ∧ OwnW 87 2 w4.heap.size x L.length (efs L) wr ∧ Hid (L.Sublist (L0.take k)) ∧ Hid (L.map (·.t) = flt15 (fun i => ¬ Bg n p (T i).n (T i).p) T k) ∧ Below w4.heap.size w4 wr) (fun _ _ y _ => N - (intOf y).toNat)
  case atStart => exact ⟨0, [], rfl, Nat.zero_le _, Nat.le_refl _, ownW_nil _ _ _ _, List.nil_sublist _, rfl, Below.refl _ _⟩
  case round =>
    obtain ⟨k, L, rfl, hk, hMk, own, hsub, hm, hb⟩ := hrel
    by_cases hlt : k < N
    · obtain ⟨b0, off, a0, c0, hva, hbw, u0, u1, hc0, R0⟩ := hrow k hlt
      replace u0 := (hb.cell (p := ⟨b0, off + k * 2, none⟩) hbw).trans u0
      replace u1 := (hb.cell (p := ⟨b0, off + k * 2 + 1, none⟩) hbw).trans u1
      have e0 := hT0 k (by omega)
      have e1 : TF (L0.map (·.t)) k = T k := by
        rw [TF_eq (by simp; omega)]
        simp only [List.getElem_map]
        exact e0
      rw [e1] at u0 u1 R0
      have hel : ∃ e : El15, e ∈ L0 ∧ L0[k]? = some e ∧ e.t = T k ∧ some (Value.slice (some ⟨e.x, 0, none⟩) e.t.n e.k) = some (.slice a0 (T k).n c0) := by
        refine ⟨L0[k], List.getElem_mem _, List.getElem?_eq_getElem (by omega), e0, ?_⟩
        obtain ⟨q1, _⟩ := efs_at (L := L0) (i := k) (by omega)
        obtain ⟨a9, cap9, hv9, hr9, _⟩ := ownW_row L4.1
        simp only [Value.slice.injEq] at hv9
        obtain ⟨rfl, _, rfl⟩ := hv9
        obtain ⟨b5, o5, hab, hb5, c5⟩ := hr9 _ _ q1
        rw [hva] at hab
        simp only [Option.some.injEq, Addr.mk.injEq, and_true] at hab
        obtain ⟨rfl, rfl⟩ := hab
        rw [← c5, ← u0]
        exact (hb.cell (p := ⟨b0, off + k * 2, none⟩) hb5).symm
      obtain ⟨el, hel1, hel2, hel3, hel4⟩ := hel
      have hlt' : (k : Int) < (N : Int) := by omega
      have lk := (hl k hlt).1
      subst hva
      have MB := Mut.new wr #[.slice a0 (T k).n c0, .string (T k).v] 87
      have bB : Below wr.heap.size wr (wr.alloc (.cells #[.slice a0 (T k).n c0, .string (T k).v] 87)) := below_box (Below.refl _ _)
      have d1 : Below w4.heap.size w4 (wr.alloc (.cells #[.slice a0 (T k).n c0, .string (T k).v] 87)) := below_step hb bB
      have own1 := ownW_below own bB
      have S := hide (fun w R Q => s_begins a1 a0 n (T k).n c1 c0 p (T k).p w hn R Q)
      have Q4 := Q0.below d4
      have hbs := hb.size
      by_cases hs : Bg n p (T k).n (T k).p
      · rw [tB_t hs] at S
        have hmN : Hid (L.map (·.t) = flt15 (fun i => ¬ Bg n p (T i).n (T i).p) T (k + 1)) := hm.out.trans (flt15_no (P := fun i => ¬ Bg n p (T i).n (T i).p) (fun h => h hs)).symm
        have hsub2 : Hid (L.Sublist (L0.take (k + 1))) := hsub.out.trans (by rw [List.take_add_one]; exact List.sublist_append_left _ _)
        clear hm hs hl own bB hb hY hT1 hsub hrow hel1 hel2 hel3 hel4 e0 e1 hT0 L4
        generalize T k = t at *
        obtain ⟨tn, tp, tv⟩ := t
        dsimp only at *
        go_wp2_with fail
        generalize wr.alloc (.cells #[.slice a0 tn c0, .string tv] 87) = w5 at *
        generalize wr.heap.size = bx at *
        refine (S.out _ (Q4.below d1) (R0.below d1)).mono ?_
        rintro e w6 ⟨rfl, b6⟩
        have d6 := d1.trans (b6.mono d1.size)
        replace own1 := ownW_below own1 b6
        clear b6 d1 u0 u1 MB
        go_wp2_with fail
        exact ⟨⟨k + 1, L, by go_num, by omega, by omega, own1, hsub2.out, hmN.out, d6⟩, by simp [intOf]; omega⟩
      · rw [tB_f hs] at S
        have hmN : Hid ((L ++ [el]).map (·.t) = flt15 (fun i => ¬ Bg n p (T i).n (T i).p) T (k + 1)) := by
          show _ = _
          rw [flt15_yes (P := fun i => ¬ Bg n p (T i).n (T i).p) hs, List.map_append, hm.out]
          simp [hel3]
        have hsub2 : Hid ((L ++ [el]).Sublist (L0.take (k + 1))) := by
          show List.Sublist _ _
          rw [List.take_add_one, hel2]
          exact hsub.out.append (List.Sublist.refl _)
        have helf : Hid (elf el = [.slice a0 (T k).n c0, .string (T k).v]) := by
          show _ = _
          simp only [Option.some.injEq] at hel4
          unfold elf
          rw [hel4, hel3]
        clear hm hs hl own bB hb hY hT1 hsub hrow hel1 hel2 hel3 hel4 e0 e1 hT0 L4
        generalize T k = t at *
        obtain ⟨tn, tp, tv⟩ := t
        dsimp only at *
        go_wp2_with fail
        generalize wr.alloc (.cells #[.slice a0 tn c0, .string tv] 87) = w5 at *
        generalize wr.heap.size = bx at *
        refine (S.out _ (Q4.below d1) (R0.below d1)).mono ?_
        rintro e w6 ⟨rfl, b6⟩
        have d6 := d1.trans (b6.mono d1.size)
        replace own1 := ownW_below own1 b6
        replace MB := MB.below b6
        have q0 := MB.2.1 0 _ rfl
        have q1 := MB.2.1 1 _ rfl
        clear b6 d1 u0 u1
        have own4 := ownW_below own1 (below_box (o := .cells #[.slice a0 tn c0, .string tv] 87) (Below.refl _ _))
        have h1c : Hid (∀ u ∈ ([.slice a0 tn c0, .string tv] : List Value), u.oneCell' = true) := alf_one ⟨⟨tn, tp, tv⟩, a0, c0⟩
        have hlen9 : Hid (L.length + 1 ≤ 8589934593) := by show _ ≤ _; omega
        have dA : Below w4.heap.size w4 (w6.alloc (.cells #[.slice a0 tn c0, .string tv] 87)) := below_step d6 (below_box (Below.refl _ _))
        have hba := dA.size
        have RA : RowW (some ⟨w6.heap.size, 0, none⟩) [.slice a0 tn c0, .string tv] (w6.alloc (.cells #[.slice a0 tn c0, .string tv] 87)) := RowW.mut (Mut.new w6 _ _)
        generalize hLM : L.length = LM at *
        generalize hAM : efs L = AM at *
        go_wp2_with (first | (at_builtin; refine wpList_appW leafT rfl _ _ rfl w4.heap.size _ LM AM rfl own4 w6.heap.size 0 1 1 [.slice a0 tn c0, .string tv] rfl rfl RA h1c.out hlen9.out (by decide) hba ?_; intro v9 w9 own9 b9 _ _))
        subst hLM hAM
        have D9 := dA.trans b9
        rw [← helf.out, ← efs_app] at own9
        replace own9 : OwnW 87 2 w4.heap.size v9 (L ++ [el]).length (efs (L ++ [el])) w9 := by rw [List.length_append]; exact own9
        clear own4 own1 RA dA b9 q0 q1 MB h1c
        go_wp2_with fail
        exact ⟨⟨k + 1, L ++ [el], by go_num, by omega, by simp; omega, own9, hsub2.out, hmN.out, D9⟩, by simp [intOf]; omega⟩
    · have hlt' : ¬ (k : Int) < (N : Int) := by omega
      obtain rfl : k = N := by omega
      have hm2 : L.map (·.t) = delL k T n p := hm.out
      have hlm : L.length = (delL k T n p).length := by rw [← hm2]; simp
      have hs0 : L.Sublist L0 := hsub.out.trans (List.take_sublist _ _)
      have L9 := L4.sub hb own (Nat.le_refl _) d4.size hs0
      have D9 : Below w.heap.size w wr := d4.trans (hb.mono d4.size)
      obtain ⟨xa, xc, hxv, _⟩ := ownW_row own
      by_cases e : L.length = k
      · have hE := hide (hY.out.symm.trans (if_pos (hlm.symm.trans e)))
        have k0 : ((L.length : Int) == (k : Int)) = true := by simp [e]
        subst hxv
        clear hm hm2 hlm hl hY hT1 hrow e own hsub L9 hb
        go_wp2_with fail
        exact bodyPost_ret (v := .tuple #[.slice none 0 0, .bool GA.2]) (by rw [hE.out]; simp [results, Tryz.results55, go_sem]) rfl ⟨_, rfl, [], LsF.nil _ _, by rw [hE.out]; rfl, D9⟩
      · have hE := hide (hY.out.symm.trans (if_neg (fun q => e (hlm.trans q))))
        have k0 : ((L.length : Int) == (k : Int)) = false := by simp; omega
        subst hxv
        have hm3 := hide hm2
        clear hm hm2 hlm hl hY hT1 hrow e own hsub hb
        go_wp2_with fail
        exact bodyPost_ret (v := .tuple #[.slice xa L.length xc, .bool GA.2]) (by rw [hE.out]; simp [results, Tryz.results55, go_sem]) rfl ⟨_, rfl, L, L9, by rw [hE.out]; exact hm3.out, D9⟩
end Go.Proofs.YtnficndeblkjhaaGreatDoor
