/- SetAt of the specification. -/
import Derived.Test.YtnficndeblkjhaaGreatDoorS15k
namespace Go.Proofs.YtnficndeblkjhaaGreatDoor
open Go.RowKit

/-- Out of a list of one's own, one more among them, in a newer list. -/
theorem LsF.put {base base2 : Nat} {v v0 : Value} {L0 L : List El15} {z : El15} {k : Nat} {w4 w6 w : World} (h : LsF base v0 L0 w4) (hb4 : Below w4.heap.size w4 w6) (hb6 : Below w6.heap.size w6 w) (own : OwnW 87 2 base2 v (L.length + 1) (efs (L.take k ++ z :: L.drop k)) w) (h2 : w6.heap.size ≤ base2) (h1 : base ≤ base2) (hs : L.Sublist L0)
    (hz : base ≤ z.x ∧ z.t.n ≤ z.k ∧ OutStr z.x z.t.n z.t.n z.t.p w6) (hzx : w4.heap.size ≤ z.x) : LsF base v (L.take k ++ z :: L.drop k) w := by
  have hall : ∀ e, e ∈ L.take k ++ z :: L.drop k → base ≤ e.x ∧ e.t.n ≤ e.k ∧ OutStr e.x e.t.n e.t.n e.t.p w6 := by
    intro e he
    have h3 : e ∈ L → base ≤ e.x ∧ e.t.n ≤ e.k ∧ OutStr e.x e.t.n e.t.n e.t.p w6 := fun he => ⟨(h.2.1 e (hs.mem he)).1, (h.2.1 e (hs.mem he)).2.1, (h.2.1 e (hs.mem he)).2.2.below hb4⟩
    rcases List.mem_append.1 he with he | he
    · exact h3 (List.take_subset _ _ he)
    · rcases List.mem_cons.1 he with rfl | he
      · exact hz
      · exact h3 (List.drop_subset _ _ he)
  have hlen : (L.take k ++ z :: L.drop k).length = L.length + 1 := by
    simp only [List.length_append, List.length_cons, List.length_take, List.length_drop]
    omega
  have hp : L.Pairwise (fun a b => a.x ≠ b.x) := h.2.2.2.sublist hs
  have hzn : ∀ e, e ∈ L → e.x ≠ z.x := fun e he => by
    have := h.lt (hs.mem he)
    omega
  refine ⟨by rw [hlen]; exact ownW_base own h1, fun e he => ⟨(hall e he).1, (hall e he).2.1, (hall e he).2.2.below hb6⟩, fun b hbb e he => ?_, ?_⟩
  · have h3 := (ownW_lt own hbb).1
    have h4 := (hall e he).2.2.1
    omega
  · have hperm : (L.take k ++ z :: L.drop k).Perm (z :: L) := by
      have := List.perm_middle (a := z) (l₁ := L.take k) (l₂ := L.drop k)
      rwa [List.take_append_drop] at this
    refine (List.Perm.pairwise_iff (fun {a b} hab => hab.symm) hperm).2 ?_
    rw [List.pairwise_cons]
    exact ⟨fun e he => (hzn e he).symm, hp⟩
theorem put_map (z : El15) (L : List El15) : (L.take (aheadF z.t (L.map (·.t))) ++ z :: L.drop (aheadF z.t (L.map (·.t)))).map (·.t) = putF z.t (L.map (·.t)) := by
  unfold putF
  simp [List.map_take, List.map_drop]
set_option maxRecDepth 100000 in
set_option maxHeartbeats 6400000 in
theorem s_setAt (a : Option Addr) (N c : Nat) (T : Nat → Lf) (a1 : Option Addr) (n c1 : Nat) (p : Nat → ByteArray) (v : ByteArray) (w : World) (hN : N ≤ 1048576) (hl : LowF N T) (hn : n ≤ 1048576) (hp0 : ∀ i, i < n → (p i).size ≤ maxLen) (hv0 : v.size ≤ maxLen) (hR : RowF true a N T w) (Q0 : RowStr a1 n p w) :
    Calls Tryz.prog 54 #[.slice a N c, .slice a1 n c1, .string v] w fun e w' => ∃ u, e = .returned (.tuple #[u, .bool (setA N T n p v).2]) ∧ ∃ L, LsF w.heap.size u L w' ∧ L.map (·.t) = (setA N T n p v).1 ∧ Below w.heap.size w w' := by
  have hY : Hid (GC N T → Pw n p → Wd v → (if tB (GC (putF ⟨n, p, v⟩ (keepF T n p N)).length (TF (putF ⟨n, p, v⟩ (keepF T n p N)))) then (putF ⟨n, p, v⟩ (keepF T n p N), true) else ([], false)) = setA N T n p v) := fun h g k => by
    unfold setA
    by_cases e : GC (putF ⟨n, p, v⟩ (keepF T n p N)).length (TF (putF ⟨n, p, v⟩ (keepF T n p N)))
    · rw [if_pos (tB_t e), if_pos (tB_t ⟨h, g, k, e⟩)]
    · rw [if_neg (by simp [tB_f e]), if_neg (by simp [tB_f (fun z : GC N T ∧ Pw n p ∧ Wd v ∧ GC (putF ⟨n, p, v⟩ (keepF T n p N)).length (TF (putF ⟨n, p, v⟩ (keepF T n p N))) => e z.2.2.2)])]
  have hZ : Hid (¬ (GC N T ∧ Pw n p ∧ Wd v) → setA N T n p v = ([], false)) := fun h => if_neg (by simp [tB_f (fun z : GC N T ∧ Pw n p ∧ Wd v ∧ GC (putF ⟨n, p, v⟩ (keepF T n p N)).length (TF (putF ⟨n, p, v⟩ (keepF T n p N))) => h ⟨z.1, z.2.1, z.2.2.1⟩)])
  have G := hide (fun w R => s_goodConfig a N c T w hN hl R)
  have W := hide (fun w R => s_path a1 n c1 p w hn hp0 R)
  have V := hide (fun w => s_word v w hv0)
  generalize setA N T n p v = GA at *
  go_enter Tryz.func54, Tryz.ntmps54
  go_wp2_with fail
  refine (G.out _ hR).mono ?_
  rintro e w1 ⟨rfl, b1⟩
  by_cases hg : GC N T
  case neg =>
    rw [tB_f hg]
    have hE := hide (hZ.out (fun h => hg h.1))
    clear hY hZ
    go_wp2_with fail
    exact bodyPost_ret (v := .tuple #[.slice none 0 0, .bool GA.2]) (by rw [hE.out]; simp [results, Tryz.results54, go_sem]) rfl ⟨_, rfl, [], LsF.nil _ _, by rw [hE.out]; rfl, b1⟩
  rw [tB_t hg]
  go_wp2_with fail
  refine (W.out _ (Q0.below b1)).mono ?_
  rintro e w2 ⟨rfl, b2⟩
  have d2 := below_step b1 b2
  clear b1 b2 G W
  by_cases hp : Pw n p
  case neg =>
    rw [tB_f hp]
    have hE := hide (hZ.out (fun h => hp h.2.1))
    clear hY hZ
    go_wp2_with fail
    exact bodyPost_ret (v := .tuple #[.slice none 0 0, .bool GA.2]) (by rw [hE.out]; simp [results, Tryz.results54, go_sem]) rfl ⟨_, rfl, [], LsF.nil _ _, by rw [hE.out]; rfl, d2⟩
  rw [tB_t hp]
  go_wp2_with fail
  refine (V.out _).mono ?_
  rintro e w3 ⟨rfl, b3⟩
  replace d2 := below_step d2 b3
  clear b3 V
  by_cases hv : Wd v
  case neg =>
    rw [tB_f hv]
    have hE := hide (hZ.out (fun h => hv h.2.2))
    clear hY hZ
    go_wp2_with fail
    exact bodyPost_ret (v := .tuple #[.slice none 0 0, .bool GA.2]) (by rw [hE.out]; simp [results, Tryz.results54, go_sem]) rfl ⟨_, rfl, [], LsF.nil _ _, by rw [hE.out]; rfl, d2⟩
  rw [tB_t hv]
  have hn30 : N ≤ 30 := hg.2
  have hT1 : Hid (∀ i, i < N → 1 ≤ (T i).n ∧ (T i).n ≤ 5) := fun i hi => ⟨(hg.1 i hi).1.1, (hg.1 i hi).1.2.1⟩
  have hn5 : 1 ≤ n ∧ n ≤ 5 := ⟨hp.1, hp.2.1⟩
  have hz1 : OkF ⟨n, p, v⟩ 1048576 := ⟨by show n ≤ _; omega, fun i hi => Nat.le_trans (hp.2.2 i hi).2.1 (by omega), Nat.le_trans hv.2.1 (by omega)⟩
  replace hY := hide (hY.out hg hp hv)
  clear hZ
  have OW := hide (fun w R => s_own15 a N c T w hN (fun i hi => by have := hT1.out i hi; omega) R)
  have GC2 := hide (fun a c M T w h1 h2 R => s_goodConfig a M c T w h1 h2 R)
  clear hp0 hv0
  go_wp2_with fail
  refine (OW.out _ (hR.below d2).any).mono ?_
  rintro e w4 ⟨v0, rfl, L0, L4, hL4, b4⟩
  have d4 := below_step d2 b4
  have hN0 : L0.length = N := by
    have := congrArg List.length hL4
    simpa [lsF] using this
  have hT0 : ∀ i (h : i < L0.length), (L0[i]).t = T i := fun i h => by
    have h1 : (L0.map (·.t))[i]? = (lsF N T)[i]? := by rw [hL4]
    rw [List.getElem?_map, List.getElem?_eq_getElem h] at h1
    unfold lsF at h1
    rw [List.getElem?_map, List.getElem?_range (by omega)] at h1
    simpa using h1
  replace L4 := L4.base d2.size
  obtain ⟨va, vc, rfl, hrow⟩ := L4.row
  rw [hN0] at hrow
  clear b4 OW hR hL4
  go_wp2_with fail
  go_loopw [8, 10, 27] (fun x _ y wr => ∃ (k : Nat) (L : List El15), y = .int .i64 k ∧ k ≤ N ∧ L.length ≤ k ∧ OwnW 87 2 w4.heap.size x L.length (efs L) wr ∧ Hid (L = [] → x = .slice none 0 0) ∧ Hid (L.Sublist (L0.take k)) ∧ Hid (L.map (·.t) = keepF T n p k) ∧ Below w4.heap.size w4 wr) (fun _ _ y _ => N - (intOf y).toNat)
  case atStart => exact ⟨0, [], rfl, Nat.zero_le _, Nat.le_refl _, ownW_nil _ _ _ _, fun _ => rfl, List.nil_sublist _, rfl, Below.refl _ _⟩
  case round =>
    obtain ⟨k, L, rfl, hk, hMk, own, hnil, hsub, hm, hb⟩ := hrel
    by_cases hlt : k < N
    · obtain ⟨b0, off, a0, c0, hva, hbw, u0, u1, hc0, R0⟩ := hrow k hlt
      replace u0 := (hb.cell (p := ⟨b0, off + k * 2, none⟩) hbw).trans u0
      replace u1 := (hb.cell (p := ⟨b0, off + k * 2 + 1, none⟩) hbw).trans u1
      have e0 := hT0 k (by omega)
      have e1 : TF (L0.map (·.t)) k = T k := by
        rw [TF_eq (by simp; omega)]
        simp only [List.getElem_map]
        exact e0
      rw [e1] at u0 u1 R0
      have hel : ∃ e : El15, e ∈ L0 ∧ L0[k]? = some e ∧ e.t = T k ∧ some (Value.slice (some ⟨e.x, 0, none⟩) e.t.n e.k) = some (.slice a0 (T k).n c0) := by
        refine ⟨L0[k], List.getElem_mem _, List.getElem?_eq_getElem (by omega), e0, ?_⟩
        obtain ⟨q1, _⟩ := efs_at (L := L0) (i := k) (by omega)
        obtain ⟨a9, cap9, hv9, hr9, _⟩ := ownW_row L4.1
        simp only [Value.slice.injEq] at hv9
        obtain ⟨rfl, _, rfl⟩ := hv9
        obtain ⟨b5, o5, hab, hb5, c5⟩ := hr9 _ _ q1
        rw [hva] at hab
        simp only [Option.some.injEq, Addr.mk.injEq, and_true] at hab
        obtain ⟨rfl, rfl⟩ := hab
        rw [← c5, ← u0]
        exact (hb.cell (p := ⟨b0, off + k * 2, none⟩) hb5).symm
      obtain ⟨el, hel1, hel2, hel3, hel4⟩ := hel
      have hlt' : (k : Int) < (N : Int) := by omega
      have lk := (hl k hlt).1
      subst hva
      have MB := Mut.new wr #[.slice a0 (T k).n c0, .string (T k).v] 87
      have bB : Below wr.heap.size wr (wr.alloc (.cells #[.slice a0 (T k).n c0, .string (T k).v] 87)) := below_box (Below.refl _ _)
      have d1 : Below w4.heap.size w4 (wr.alloc (.cells #[.slice a0 (T k).n c0, .string (T k).v] 87)) := below_step hb bB
      have own1 := ownW_below own bB
      have S := hide (fun w R Q => s_begins a0 a1 (T k).n n c0 c1 (T k).p p w lk R Q)
      have S2 := hide (fun w R Q => s_begins a1 a0 n (T k).n c1 c0 p (T k).p w hn R Q)
      have Q4 := Q0.below d4
      have hbs := hb.size
      have hsub1 : Hid (L.Sublist (L0.take (k + 1))) := hsub.out.trans (by rw [List.take_add_one]; exact List.sublist_append_left _ _)
      have hno : Hid (¬ (¬ Bg n p (T k).n (T k).p ∧ ¬ Bg (T k).n (T k).p n p) → L.map (·.t) = keepF T n p (k + 1)) := fun h => hm.out.trans (by unfold keepF; rw [flt15_no (P := (fun i => ¬ Bg n p (T i).n (T i).p ∧ ¬ Bg (T i).n (T i).p n p)) h])
      have hyes : Hid ((¬ Bg n p (T k).n (T k).p ∧ ¬ Bg (T k).n (T k).p n p) → (L ++ [el]).map (·.t) = keepF T n p (k + 1)) := fun h => by
        unfold keepF at hm ⊢
        rw [flt15_yes (P := (fun i => ¬ Bg n p (T i).n (T i).p ∧ ¬ Bg (T i).n (T i).p n p)) h, List.map_append, hm.out]
        simp [hel3]
      by_cases hs : Bg (T k).n (T k).p n p
      · rw [tB_t hs] at S
        have hmN := hide (hno.out (fun h => h.2 hs))
        have hnil1 := hide hnil.out
        clear hm hl own bB hb hY hT1 hsub hrow hel1 hel2 hel3 hel4 e0 e1 hT0 L4 hnil hno hyes hg hp hv hz1 hs S2
        generalize T k = t at *
        obtain ⟨tn, tp, tv⟩ := t
        dsimp only at *
        go_wp2_with fail
        generalize wr.alloc (.cells #[.slice a0 tn c0, .string tv] 87) = w5 at *
        generalize wr.heap.size = bx at *
        refine (S.out _ (R0.below d1) (Q4.below d1)).mono ?_
        rintro e w6 ⟨rfl, b6⟩
        have d6 := d1.trans (b6.mono d1.size)
        replace own1 := ownW_below own1 b6
        replace MB := MB.below b6
        have q0 := MB.2.1 0 _ rfl
        clear b6 d1 u0 u1
        go_wp2_with fail
        exact ⟨⟨k + 1, L, by go_num, by omega, by omega, own1, hnil1.out, hsub1.out, hmN.out, d6⟩, by simp [intOf]; omega⟩
      rw [tB_f hs] at S
      by_cases hs2 : Bg n p (T k).n (T k).p
      · rw [tB_t hs2] at S2
        have hmN := hide (hno.out (fun h => h.1 hs2))
        have hnil1 := hide hnil.out
        clear hm hl own bB hb hY hT1 hsub hrow hel1 hel2 hel3 hel4 e0 e1 hT0 L4 hnil hno hyes hg hp hv hz1 hs hs2
        generalize T k = t at *
        obtain ⟨tn, tp, tv⟩ := t
        dsimp only at *
        go_wp2_with fail
        generalize wr.alloc (.cells #[.slice a0 tn c0, .string tv] 87) = w5 at *
        generalize wr.heap.size = bx at *
        refine (S.out _ (R0.below d1) (Q4.below d1)).mono ?_
        rintro e w6 ⟨rfl, b6⟩
        have d6 := d1.trans (b6.mono d1.size)
        replace own1 := ownW_below own1 b6
        replace MB := MB.below b6
        have q0 := MB.2.1 0 _ rfl
        clear b6 d1 u0 u1
        go_wp2_with fail
        refine (S2.out _ (Q4.below d6) (R0.below d6)).mono ?_
        rintro e w7 ⟨rfl, b7⟩
        have d7 := d6.trans (b7.mono d6.size)
        replace own1 := ownW_below own1 b7
        replace MB := MB.below b7
        clear b7 d6 q0
        clear MB
        go_wp2_with fail
        exact ⟨⟨k + 1, L, by go_num, by omega, by omega, own1, hnil1.out, hsub1.out, hmN.out, d7⟩, by simp [intOf]; omega⟩
      · rw [tB_f hs2] at S2
        have hmN := hide (hyes.out ⟨hs2, hs⟩)
        have hsub2 : Hid ((L ++ [el]).Sublist (L0.take (k + 1))) := by
          show List.Sublist _ _
          rw [List.take_add_one, hel2]
          exact hsub.out.append (List.Sublist.refl _)
        have helf : Hid (elf el = [.slice a0 (T k).n c0, .string (T k).v]) := by
          show _ = _
          simp only [Option.some.injEq] at hel4
          unfold elf
          rw [hel4, hel3]
        clear hm hl own bB hb hY hT1 hsub hrow hel1 hel2 hel3 hel4 e0 e1 hT0 L4 hnil hno hyes hg hp hv hz1 hs hs2 hsub1
        generalize T k = t at *
        obtain ⟨tn, tp, tv⟩ := t
        dsimp only at *
        go_wp2_with fail
        generalize wr.alloc (.cells #[.slice a0 tn c0, .string tv] 87) = w5 at *
        generalize wr.heap.size = bx at *
        refine (S.out _ (R0.below d1) (Q4.below d1)).mono ?_
        rintro e w6 ⟨rfl, b6⟩
        have d6 := d1.trans (b6.mono d1.size)
        replace own1 := ownW_below own1 b6
        replace MB := MB.below b6
        have q0 := MB.2.1 0 _ rfl
        clear b6 d1 u0 u1
        go_wp2_with fail
        refine (S2.out _ (Q4.below d6) (R0.below d6)).mono ?_
        rintro e w7 ⟨rfl, b7⟩
        have d7 := d6.trans (b7.mono d6.size)
        replace own1 := ownW_below own1 b7
        replace MB := MB.below b7
        clear b7 d6 q0
        have q0 := MB.2.1 0 _ rfl
        have q1 := MB.2.1 1 _ rfl
        have own4 := ownW_below own1 (below_box (o := .cells #[.slice a0 tn c0, .string tv] 87) (Below.refl _ _))
        have h1c : Hid (∀ u ∈ ([.slice a0 tn c0, .string tv] : List Value), u.oneCell' = true) := alf_one ⟨⟨tn, tp, tv⟩, a0, c0⟩
        have hlen9 : Hid (L.length + 1 ≤ 8589934593) := by show _ ≤ _; omega
        have dA : Below w4.heap.size w4 (w7.alloc (.cells #[.slice a0 tn c0, .string tv] 87)) := below_step d7 (below_box (Below.refl _ _))
        have hba := dA.size
        have RA : RowW (some ⟨w7.heap.size, 0, none⟩) [.slice a0 tn c0, .string tv] (w7.alloc (.cells #[.slice a0 tn c0, .string tv] 87)) := RowW.mut (Mut.new w7 _ _)
        generalize hLM : L.length = LM at *
        generalize hAM : efs L = AM at *
        go_wp2_with (first | (at_builtin; refine wpList_appW leafT rfl _ _ rfl w4.heap.size _ LM AM rfl own4 w7.heap.size 0 1 1 [.slice a0 tn c0, .string tv] rfl rfl RA h1c.out hlen9.out (by decide) hba ?_; intro v9 w9 own9 b9 _ _))
        subst hLM hAM
        have D9 := dA.trans b9
        rw [← helf.out, ← efs_app] at own9
        replace own9 : OwnW 87 2 w4.heap.size v9 (L ++ [el]).length (efs (L ++ [el])) w9 := by rw [List.length_append]; exact own9
        clear own4 own1 RA dA b9 q0 q1 MB h1c
        go_wp2_with fail
        exact ⟨⟨k + 1, L ++ [el], by go_num, by omega, by simp; omega, own9, fun h => by simp at h, hsub2.out, hmN.out, D9⟩, by simp [intOf]; omega⟩
    · have hlt' : ¬ (k : Int) < (N : Int) := by omega
      obtain rfl : k = N := by omega
      have hs0 : L.Sublist L0 := hsub.out.trans (List.take_sublist _ _)
      have hmem : ∀ t, t ∈ (⟨n, p, v⟩ : Lf) :: keepF T n p k → OkF t 1048576 ∧ 1 ≤ t.n ∧ t.n ≤ 5 := fun t ht => by
        rcases List.mem_cons.1 ht with rfl | ht
        · exact ⟨hz1, hn5⟩
        · obtain ⟨i, hi, _, rfl⟩ := flt15_mem ht
          exact ⟨hl i hi, hT1.out i hi⟩
      have hmemP : ∀ t, t ∈ putF ⟨n, p, v⟩ (keepF T n p k) → OkF t 1048576 := fun t ht => (hmem t ((putF_perm _ _).subset ht)).1
      have hlow := lowF_TF hmemP
      have hplen : (putF ⟨n, p, v⟩ (keepF T n p k)).length = L.length + 1 := by
        rw [(putF_perm _ _).length_eq, ← hm.out]; simp
      have hLn : ∀ e, e ∈ L → e.t.n ≤ 1048576 := fun e he => by
        have h1 : e.t ∈ L.map (·.t) := List.mem_map.2 ⟨e, he, rfl⟩
        rw [hm.out] at h1
        exact (hmem _ (List.mem_cons_of_mem _ h1)).1.1
      have hmo := hide hm.out
      have Dr := d4.trans (hb.mono d4.size)
      have Qr := Q0.below Dr
      have hL31 : L.length ≤ 31 := by omega
      have l0 : 1 ≤ n := hn5.1
      have hl15 := hide (listS_len n p)
      have hl16 : Hid (([] : List ByteArray).length + (listS n p).length ≤ 8589934593) := by show _ ≤ _; rw [hl15.out]; simp; omega
      have own0 : OwnT 9 wr.heap.size (.slice (some ⟨wr.heap.size, 0, none⟩) 0 0) [] (wr.alloc (.cells #[] 9)) := by simpa [tcells] using ownT_made 9 wr [] (by simp)
      have srcW : SrcT a1 (listS n p) c1 wr := by
        obtain ⟨ba, oa, ha0, _, _⟩ := Qr 0 l0
        exact ⟨RowT.of_str Qr, .inr ⟨ba, oa, ha0⟩⟩
      have src0 := srcW.below (below_box (o := .cells #[] 9) (Below.refl _ _))
      have hn1 := hnil.out
      have L4h := hide L4
      clear hm hmem hmemP hrow hsub hnil hT0 hl hT1 hz1 srcW Qr L4
      go_wp2_with (first | (at_builtin; refine wpList_appT strT rfl _ _ rfl wr.heap.size _ [] rfl own0 a1 (listS n p) n c1 rfl hl15.out.symm src0 hl16.out (by decide) (by simp) ?_; intro v8 wC own8 b8 _ _; rw [List.nil_append] at own8; obtain ⟨g, cap, rfl, hcap, hg0, oC⟩ := ownT_outS own8 l0))
      have bZ : Below wr.heap.size wr (wr.alloc (.cells #[] 9)) := below_box (Below.refl _ _)
      have dC : Below wr.heap.size wr wC := bZ.trans b8
      clear bZ b8 own8 own0 src0
      have d4C : Below w4.heap.size w4 wC := hb.trans (dC.mono hb.size)
      have DC := Dr.trans (dC.mono Dr.size)
      have ownC := ownW_below own dC
      have hz2 : w.heap.size ≤ g := Nat.le_trans Dr.size hg0
      have hz3 : w4.heap.size ≤ g := Nat.le_trans hb.size hg0
      have FIN : Hid (∀ (u : Value) (wD : World), Below wC.heap.size wC wD → OwnW 87 2 wC.heap.size u (L.length + 1) (efs (L.take (aheadF ⟨n, p, v⟩ (L.map (·.t))) ++ (⟨⟨n, p, v⟩, g, cap⟩ : El15) :: L.drop (aheadF ⟨n, p, v⟩ (L.map (·.t))))) wD → ∃ L9, LsF w.heap.size u L9 wD ∧ L9.map (·.t) = putF ⟨n, p, v⟩ (keepF T n p k)) := fun u wD bD own9 =>
        ⟨_, L4h.out.put (z := ⟨⟨n, p, v⟩, g, cap⟩) d4C bD own9 (Nat.le_refl _) DC.size hs0 ⟨hz2, hcap, oC⟩ hz3, (put_map ⟨⟨n, p, v⟩, g, cap⟩ L).trans (by rw [hmo.out])⟩
      have hL0r : Hid (∀ e, e ∈ L → e.t.n ≤ 1048576 ∧ RowStr (some ⟨e.x, 0, none⟩) e.t.n e.t.p wC) := fun e he => ⟨hLn e he, ((L4h.out.2.1 e (hs0.mem he)).2.2.below d4C).row⟩
      have PUT : Hid (Calls Tryz.prog 84 #[u8, .agg #[.slice (some ⟨g, 0, none⟩) n cap, .string v]] wC fun e w' => ∃ u, e = .returned u ∧ OwnW 87 2 wC.heap.size u (L.length + 1) (efs (L.take (aheadF ⟨n, p, v⟩ (L.map (·.t))) ++ (⟨⟨n, p, v⟩, g, cap⟩ : El15) :: L.drop (aheadF ⟨n, p, v⟩ (L.map (·.t))))) w' ∧ Below wC.heap.size wC w') := by
        by_cases hLe : L = []
        · subst hLe
          rw [hn1 rfl]
          exact s_put15n ⟨⟨n, p, v⟩, g, cap⟩ wC
        · obtain ⟨xa, xc, hxv, hxr, hx3⟩ := ownW_row ownC
          rw [hxv]
          rcases hx3 with ⟨_, _, h0⟩ | ⟨gx, rfl, hx4, hx5, hx6, _⟩
          · exact absurd (List.eq_nil_of_length_eq_zero h0) hLe
          · exact s_put15 gx xc L ⟨⟨n, p, v⟩, g, cap⟩ wC hL31 (Nat.one_le_iff_ne_zero.2 (fun h => hLe (List.eq_nil_of_length_eq_zero h))) hx6 hxr hL0r.out oC.row
      clear hL0r hLn own ownC hn1 L4h oC
      go_wp2_with fail
      refine (PUT.out).mono ?_
      rintro e wD ⟨u, rfl, own9, bD⟩
      have DD9 := below_step DC bD
      obtain ⟨L9, L9s, hL9⟩ := FIN.out u wD bD own9
      clear PUT FIN own9 bD dC d4C
      obtain ⟨ua, uc, rfl, hRF⟩ := L9s.row
      have hl9 : L9.length = (putF ⟨n, p, v⟩ (keepF T n p k)).length := by rw [← hL9]; simp
      rw [hL9, hl9] at hRF
      have hl9h := hide hl9
      rw [hl9]
      rw [hl9] at L9s
      have hL9h := hide hL9
      clear hL9 hl9
      generalize putF ⟨n, p, v⟩ (keepF T n p k) = DL at *
      have hDl : DL.length ≤ 1048576 := by omega
      have G2 := hide (GC2.out ua uc DL.length (TF DL) wD hDl hlow hRF)
      clear GC2 hlow hplen
      go_wp2_with fail
      refine (G2.out).mono ?_
      rintro e wE ⟨rfl, bE⟩
      have dE := below_step DD9 bE
      have LE := L9s.below bE
      clear bE G2 DD9 L9s hRF
      by_cases hgd : GC DL.length (TF DL)
      case neg =>
        rw [tB_f hgd]
        have hE := hide (hY.out.symm.trans (if_neg (by simp [tB_f hgd])))
        clear hY hgd
        go_wp2_with fail
        exact bodyPost_ret (v := .tuple #[.slice none 0 0, .bool GA.2]) (by rw [hE.out]; simp [results, Tryz.results54, go_sem]) rfl ⟨_, rfl, [], LsF.nil _ _, by rw [hE.out]; rfl, dE⟩
      rw [tB_t hgd]
      have hE := hide (hY.out.symm.trans (if_pos (tB_t hgd)))
      clear hY hgd
      go_wp2_with fail
      exact bodyPost_ret (v := .tuple #[.slice ua DL.length uc, .bool GA.2]) (by rw [hE.out]; simp [results, Tryz.results54, go_sem]) rfl ⟨_, rfl, L9, LE, by rw [hE.out]; exact hL9h.out, dE⟩
end Go.Proofs.YtnficndeblkjhaaGreatDoor
