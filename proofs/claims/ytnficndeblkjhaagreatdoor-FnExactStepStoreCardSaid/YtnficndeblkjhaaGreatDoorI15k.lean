/- SetAt of the program. -/
import Derived.Test.YtnficndeblkjhaaGreatDoorGrp8
namespace Go.Proofs.YtnficndeblkjhaaGreatDoor
open Go.RowKit

theorem rowF_of {g : Nat} {S : List Al15} {w0 w : World} (h : RowW (some ⟨g, 0, none⟩) (afs S) w) (hS : ∀ e, e ∈ S → e.t.n ≤ e.k ∧ RowStr e.a e.t.n e.t.p w0) (hb : Below w0.heap.size w0 w) : RowF true (some ⟨g, 0, none⟩) S.length (TF (S.map (·.t))) w := by
  intro i hi
  obtain ⟨e1, e2⟩ := afs_at hi
  obtain ⟨b, off, ha, hb1, c0⟩ := h _ _ e1
  obtain ⟨b', off', ha', _, c1⟩ := h _ _ e2
  rw [ha] at ha'
  simp only [Option.some.injEq, Addr.mk.injEq, and_true] at ha'
  obtain ⟨rfl, rfl⟩ := ha'
  obtain ⟨h2, h3⟩ := hS _ (List.getElem_mem hi)
  rw [TF_eq (by simpa using hi)]
  simp only [List.getElem_map]
  exact ⟨b, off, _, _, ha, hb1, c0, c1, fun _ => h2, h3.below hb⟩
theorem ownW_made (e : TypeId) (m n : Nat) (xs : List Value) (w : World) (hm : xs.length = n * m) (hn : n ≤ maxLen) : OwnW e m w.heap.size (.slice (some ⟨w.heap.size, 0, none⟩) n n) n xs (w.alloc (.cells xs.toArray e)) :=
  ⟨hm, .inr ⟨w.heap.size, n, xs.toArray, rfl, Nat.le_refl _, heap_alloc_new w _, Nat.le_refl _, hn, by simp [hm], by rw [← hm]; simp⟩⟩
theorem lsF_TF (D : List Lf) : lsF D.length (TF D) = D := by
  apply List.ext_getElem (by simp [lsF])
  intro i h1 h2
  simp only [lsF, List.getElem_map, List.getElem_range]
  rw [TF_eq h2]
set_option maxRecDepth 100000 in
set_option maxHeartbeats 6400000 in
theorem i_setAt (a : Option Addr) (N c : Nat) (T : Nat → Lf) (a1 : Option Addr) (n c1 : Nat) (p : Nat → ByteArray) (v : ByteArray) (w : World) (hN : N ≤ 1048576) (hl : LowF N T) (hcp : n ≤ c1) (hR : RowF true a N T w) (Q0 : RowStr a1 n p w) :
    Calls Tryz.prog 67 #[.slice a N c, .slice a1 n c1, .string v] w fun e w' => ∃ u, e = .returned (.tuple #[u, .bool (setA N T n p v).2]) ∧ ∃ L, LsF w.heap.size u L w' ∧ L.map (·.t) = (setA N T n p v).1 ∧ Below w.heap.size w w' := by
  have hY : Hid (GC N T → Pw n p → Wd v → (if tB (GC (putF ⟨n, p, v⟩ (keepF T n p N)).length (TF (putF ⟨n, p, v⟩ (keepF T n p N)))) then (putF ⟨n, p, v⟩ (keepF T n p N), true) else ([], false)) = setA N T n p v) := fun h g k => by
    unfold setA
    by_cases e : GC (putF ⟨n, p, v⟩ (keepF T n p N)).length (TF (putF ⟨n, p, v⟩ (keepF T n p N)))
    · rw [if_pos (tB_t e), if_pos (tB_t ⟨h, g, k, e⟩)]
    · rw [if_neg (by simp [tB_f e]), if_neg (by simp [tB_f (fun z : GC N T ∧ Pw n p ∧ Wd v ∧ GC (putF ⟨n, p, v⟩ (keepF T n p N)).length (TF (putF ⟨n, p, v⟩ (keepF T n p N))) => e z.2.2.2)])]
  have hZ : Hid (¬ (GC N T ∧ Pw n p ∧ Wd v) → setA N T n p v = ([], false)) := fun h => if_neg (by simp [tB_f (fun z : GC N T ∧ Pw n p ∧ Wd v ∧ GC (putF ⟨n, p, v⟩ (keepF T n p N)).length (TF (putF ⟨n, p, v⟩ (keepF T n p N))) => h ⟨z.1, z.2.1, z.2.2.1⟩)])
  have G := hide (fun w R => i_goodConfig a N c T w hN hl R)
  have W := hide (fun w R => i_isWay a1 n c1 p w R)
  have V := hide (fun w => i_isWord v w)
  generalize setA N T n p v = GA at *
  go_enter Tryz.func67, Tryz.ntmps67
  go_wp2_with fail
  refine (G.out _ hR).mono ?_
  rintro e w1 ⟨rfl, b1⟩
  by_cases hg : GC N T
  case neg =>
    rw [tB_f hg]
    have hE := hide (hZ.out (fun h => hg h.1))
    clear hY hZ
    go_wp2_with fail
    exact bodyPost_ret (v := .tuple #[.slice none 0 0, .bool GA.2]) (by rw [hE.out]; simp [results, Tryz.results67, go_sem]) rfl ⟨_, rfl, [], LsF.nil _ _, by rw [hE.out]; rfl, b1⟩
  rw [tB_t hg]
  go_wp2_with fail
  refine (W.out _ (Q0.below b1)).mono ?_
  rintro e w2 ⟨rfl, b2⟩
  have d2 := below_step b1 b2
  clear b1 b2 G W
  by_cases hp : Pw n p
  case neg =>
    rw [tB_f hp]
    have hE := hide (hZ.out (fun h => hp h.2.1))
    clear hY hZ
    go_wp2_with fail
    exact bodyPost_ret (v := .tuple #[.slice none 0 0, .bool GA.2]) (by rw [hE.out]; simp [results, Tryz.results67, go_sem]) rfl ⟨_, rfl, [], LsF.nil _ _, by rw [hE.out]; rfl, d2⟩
  rw [tB_t hp]
  go_wp2_with fail
  refine (V.out _).mono ?_
  rintro e w3 ⟨rfl, b3⟩
  replace d2 := below_step d2 b3
  clear b3 V
  by_cases hv : Wd v
  case neg =>
    rw [tB_f hv]
    have hE := hide (hZ.out (fun h => hv h.2.2))
    clear hY hZ
    go_wp2_with fail
    exact bodyPost_ret (v := .tuple #[.slice none 0 0, .bool GA.2]) (by rw [hE.out]; simp [results, Tryz.results67, go_sem]) rfl ⟨_, rfl, [], LsF.nil _ _, by rw [hE.out]; rfl, d2⟩
  rw [tB_t hv]
  have hn30 : N ≤ 30 := hg.2
  have hT1 : Hid (∀ i, i < N → 1 ≤ (T i).n ∧ (T i).n ≤ 5) := fun i hi => ⟨(hg.1 i hi).1.1, (hg.1 i hi).1.2.1⟩
  have hn5 : 1 ≤ n ∧ n ≤ 5 := ⟨hp.1, hp.2.1⟩
  have hz1 : OkF ⟨n, p, v⟩ 1048576 := ⟨by show n ≤ _; omega, fun i hi => Nat.le_trans (hp.2.2 i hi).2.1 (by omega), Nat.le_trans hv.2.1 (by omega)⟩
  replace hY := hide (hY.out hg hp hv)
  clear hZ
  have OW := hide (fun a c M T w h1 h2 R => i_ownLeaves a M c T w h1 h2 R)
  have GC2 := hide (fun a c M T w h1 h2 R => i_goodConfig a M c T w h1 h2 R)
  have SO := hide (fun g cap L w0 w h1 h2 h3 h4 h5 h6 h7 => i_sortF g cap L w0 w h1 h2 h3 h4 h5 h6 h7)
  go_wp2_with fail
  have bA : Below w3.heap.size w3 (w3.alloc (.cells #[.slice a1 n c1, .string v] 87)) := below_box (Below.refl _ _)
  have dA := below_step d2 bA
  have AL0 : AlF w.heap.size (.slice (some ⟨w3.heap.size, 0, none⟩) 1 1) [⟨⟨n, p, v⟩, a1, c1⟩] w (w3.alloc (.cells #[.slice a1 n c1, .string v] 87)) :=
    ⟨ownW_base (ownW_made 87 2 1 [.slice a1 n c1, .string v] w3 rfl (by decide)) d2.size, fun e he => by
      obtain rfl : e = ⟨⟨n, p, v⟩, a1, c1⟩ := by simpa using he
      exact ⟨hcp, Q0⟩⟩
  generalize w3.alloc (.cells #[.slice a1 n c1, .string v] 87) = wB at *
  generalize w3.heap.size = g0 at *
  clear d2 bA
  go_loopw [8, 10, 30] (fun x _ y wr => ∃ (k : Nat) (M : List Al15), y = .int .i64 k ∧ k ≤ N ∧ 1 ≤ M.length ∧ M.length ≤ k + 1 ∧ AlF w.heap.size x M w wr ∧ Hid (M.map (·.t) = ⟨n, p, v⟩ :: keepF T n p k) ∧ Below w.heap.size w wr) (fun _ _ y _ => N - (intOf y).toNat)
  case atStart => exact ⟨0, [⟨⟨n, p, v⟩, a1, c1⟩], rfl, Nat.zero_le _, Nat.le_refl _, Nat.le_refl _, AL0, rfl, dA⟩
  case round =>
    clear AL0 dA
    obtain ⟨k, M, rfl, hk, hM1, hMk, AL, hm, hb⟩ := hrel
    by_cases hlt : k < N
    · obtain ⟨b0, off, a0, c0, rfl, hbw, u0, u1, hc0, R0⟩ := hR k hlt
      replace u0 := (hb.cell (p := ⟨b0, off + k * 2, none⟩) hbw).trans u0
      replace u1 := (hb.cell (p := ⟨b0, off + k * 2 + 1, none⟩) hbw).trans u1
      replace hc0 := hc0 rfl
      have hlt' : (k : Int) < (N : Int) := by omega
      have lk := (hl k hlt).1
      have MB := Mut.new wr #[.slice a0 (T k).n c0, .string (T k).v] 87
      have bB : Below wr.heap.size wr (wr.alloc (.cells #[.slice a0 (T k).n c0, .string (T k).v] 87)) := below_box (Below.refl _ _)
      have d1 := below_step hb bB
      have AL1 := AL.below bB
      have S := hide (fun w R Q => i_begins a0 a1 (T k).n n c0 c1 (T k).p p w lk hc0 R Q)
      have S2 := hide (fun w R Q => i_begins a1 a0 n (T k).n c1 c0 p (T k).p w (by omega) hcp R Q)
      have hbs := hb.size
      have hno : Hid (¬ (¬ Bg n p (T k).n (T k).p ∧ ¬ Bg (T k).n (T k).p n p) → M.map (·.t) = ⟨n, p, v⟩ :: keepF T n p (k + 1)) := fun h => hm.out.trans (by unfold keepF; rw [flt15_no (P := fun i => ¬ Bg n p (T i).n (T i).p ∧ ¬ Bg (T i).n (T i).p n p) h])
      have hyes : Hid ((¬ Bg n p (T k).n (T k).p ∧ ¬ Bg (T k).n (T k).p n p) → (M ++ [(⟨T k, a0, c0⟩ : Al15)]).map (·.t) = ⟨n, p, v⟩ :: keepF T n p (k + 1)) := fun h => by
        unfold keepF at hm ⊢
        rw [flt15_yes (P := fun i => ¬ Bg n p (T i).n (T i).p ∧ ¬ Bg (T i).n (T i).p n p) h, List.map_append, hm.out]; rfl
      by_cases hs : Bg n p (T k).n (T k).p
      · rw [tB_t hs] at S
        have hmN := hide (hno.out (fun h => h.1 hs))
        clear hm hs hR hl AL bB hb hY OW GC2 SO hT1 S2 hno hyes hg hp hv hz1
        generalize T k = t at *
        obtain ⟨tn, tp, tv⟩ := t
        dsimp only at *
        go_wp2_with fail
        generalize wr.alloc (.cells #[.slice a0 tn c0, .string tv] 87) = w1 at *
        generalize wr.heap.size = bx at *
        refine (S.out _ (R0.below d1) (Q0.below d1)).mono ?_
        rintro e w3 ⟨rfl, b3⟩
        have d3 := d1.trans (b3.mono d1.size)
        replace AL1 := AL1.below b3
        clear b3 d1 u0 u1 MB
        go_wp2_with fail
        exact ⟨⟨k + 1, M, by go_num, by omega, hM1, by omega, AL1, hmN.out, d3⟩, by simp [intOf]; omega⟩
      rw [tB_f hs] at S
      by_cases hs2 : Bg (T k).n (T k).p n p
      · rw [tB_t hs2] at S2
        have hmN := hide (hno.out (fun h => h.2 hs2))
        clear hm hs hs2 hR hl AL bB hb hY OW GC2 SO hT1 hno hyes hg hp hv hz1
        generalize T k = t at *
        obtain ⟨tn, tp, tv⟩ := t
        dsimp only at *
        go_wp2_with fail
        generalize wr.alloc (.cells #[.slice a0 tn c0, .string tv] 87) = w1 at *
        generalize wr.heap.size = bx at *
        refine (S.out _ (R0.below d1) (Q0.below d1)).mono ?_
        rintro e w3 ⟨rfl, b3⟩
        have d3 := d1.trans (b3.mono d1.size)
        replace AL1 := AL1.below b3
        replace MB := MB.below b3
        have q0 := MB.2.1 0 _ rfl
        clear b3 d1 u0 u1
        go_wp2_with fail
        refine (S2.out _ (Q0.below d3) (R0.below d3)).mono ?_
        rintro e w4 ⟨rfl, b4⟩
        have d4 := d3.trans (b4.mono d3.size)
        replace AL1 := AL1.below b4
        clear b4 d3 MB q0
        go_wp2_with fail
        exact ⟨⟨k + 1, M, by go_num, by omega, hM1, by omega, AL1, hmN.out, d4⟩, by simp [intOf]; omega⟩
      · rw [tB_f hs2] at S2
        have hmN := hide (hyes.out ⟨hs, hs2⟩)
        clear hm hs hs2 hR hl AL bB hb hY OW GC2 SO hT1 hno hyes hg hp hv hz1
        generalize T k = t at *
        obtain ⟨tn, tp, tv⟩ := t
        dsimp only at *
        go_wp2_with fail
        generalize wr.alloc (.cells #[.slice a0 tn c0, .string tv] 87) = w1 at *
        generalize wr.heap.size = bx at *
        refine (S.out _ (R0.below d1) (Q0.below d1)).mono ?_
        rintro e w3 ⟨rfl, b3⟩
        have d3 := d1.trans (b3.mono d1.size)
        replace AL1 := AL1.below b3
        replace MB := MB.below b3
        have q0 := MB.2.1 0 _ rfl
        clear b3 d1 u0 u1
        go_wp2_with fail
        refine (S2.out _ (Q0.below d3) (R0.below d3)).mono ?_
        rintro e w4 ⟨rfl, b4⟩
        have d4 := d3.trans (b4.mono d3.size)
        replace AL1 := AL1.below b4
        replace MB := MB.below b4
        clear b4 d3 q0
        have q0 := MB.2.1 0 _ rfl
        have q1 := MB.2.1 1 _ rfl
        have own3 := AL1.1
        have own4 := ownW_below own3 (below_box (o := .cells #[.slice a0 tn c0, .string tv] 87) (Below.refl _ _))
        have h1c : Hid (∀ u ∈ ([.slice a0 tn c0, .string tv] : List Value), u.oneCell' = true) := alf_one ⟨⟨tn, tp, tv⟩, a0, c0⟩
        have hlen9 : Hid (M.length + 1 ≤ 8589934593) := by show _ ≤ _; omega
        have dA : Below w.heap.size w (w4.alloc (.cells #[.slice a0 tn c0, .string tv] 87)) := below_step d4 (below_box (Below.refl _ _))
        have hba := dA.size
        have RA : RowW (some ⟨w4.heap.size, 0, none⟩) [.slice a0 tn c0, .string tv] (w4.alloc (.cells #[.slice a0 tn c0, .string tv] 87)) := RowW.mut (Mut.new w4 _ _)
        generalize hLM : M.length = LM at *
        generalize hAM : afs M = AM at *
        go_wp2_with (first | (at_builtin; refine wpList_appW leafT rfl _ _ rfl w.heap.size _ LM AM rfl own4 w4.heap.size 0 1 1 [.slice a0 tn c0, .string tv] rfl rfl RA h1c.out hlen9.out (by decide) hba ?_; intro v9 w9 own9 b9 _ _))
        subst hLM hAM
        have D9 := dA.trans b9
        have L9 := AL1.push ⟨⟨tn, tp, tv⟩, a0, c0⟩ hc0 R0 (show OwnW 87 2 w.heap.size v9 (M.length + 1) (afs M ++ alf ⟨⟨tn, tp, tv⟩, a0, c0⟩) w9 from own9)
        clear own9 own4 own3 RA dA b9 q0 q1 AL1 MB h1c
        go_wp2_with fail
        exact ⟨⟨k + 1, M ++ [(⟨⟨tn, tp, tv⟩, a0, c0⟩ : Al15)], by go_num, by omega, by simp, by simp; omega, L9, hmN, D9⟩, by simp [intOf]; omega⟩
    · have hlt' : ¬ (k : Int) < (N : Int) := by omega
      obtain rfl : k = N := by omega
      obtain ⟨va, vc, hv9, _, hvc⟩ := ownW_row AL.1
      subst hv9
      rcases hvc with ⟨_, _, h0⟩ | ⟨g, rfl, hg1, hg2, _, _⟩
      · omega
      have hmem : ∀ t, t ∈ (⟨n, p, v⟩ : Lf) :: keepF T n p k → OkF t 1048576 ∧ 1 ≤ t.n ∧ t.n ≤ 5 := fun t ht => by
        rcases List.mem_cons.1 ht with rfl | ht
        · exact ⟨hz1, hn5⟩
        · obtain ⟨i, hi, _, rfl⟩ := flt15_mem ht
          exact ⟨hl i hi, hT1.out i hi⟩
      have hMn : ∀ e, e ∈ M → e.t.n ≤ 1048576 := fun e he => by
        have h1 : e.t ∈ M.map (·.t) := List.mem_map.2 ⟨e, he, rfl⟩
        rw [hm.out] at h1
        exact (hmem _ h1).1.1
      have SO := hide (SO.out g vc M w wr hg1 hb (by omega) (by omega) AL hg2 hMn)
      have hAL2 := hide AL.2
      have hmo := hm.out
      have hML : (M.length : Int) ≤ 31 := by omega
      clear AL hm hR
      go_wp2_with fail
      refine (SO.out).mono ?_
      rintro e w5 ⟨rfl, S, hp1, hp2, hp3, hrow, b5⟩
      have d5 := hb.trans b5
      have hSm : S.map (·.t) = putF ⟨n, p, v⟩ (keepF T n p k) := by
        refine sort_put hg ?_ ?_
        · have := hp1.map (·.t)
          rw [hmo] at this
          exact this
        · rw [List.pairwise_map]
          exact hp2
      have hRF := rowF_of hrow (fun e he => hAL2.out e (hp1.subset he)) d5
      rw [hSm] at hRF
      have hlS : S.length = (putF ⟨n, p, v⟩ (keepF T n p k)).length := by rw [← hSm]; simp
      rw [hlS] at hRF
      have hlen : M.length = (putF ⟨n, p, v⟩ (keepF T n p k)).length := by rw [← hlS, hp3]
      have hmemP : ∀ t, t ∈ putF ⟨n, p, v⟩ (keepF T n p k) → OkF t 1048576 ∧ 1 ≤ t.n ∧ t.n ≤ 5 := fun t ht => hmem t ((putF_perm _ _).subset ht)
      have hlow := lowF_TF (fun t ht => (hmemP t ht).1)
      have hone : ∀ i, i < (putF ⟨n, p, v⟩ (keepF T n p k)).length → 1 ≤ (TF (putF ⟨n, p, v⟩ (keepF T n p k)) i).n ∧ (TF (putF ⟨n, p, v⟩ (keepF T n p k)) i).n ≤ 1048576 := fun i hi => by
        rw [TF_eq hi]
        have := (hmemP _ (List.getElem_mem hi)).2
        omega
      have hls := hide (lsF_TF (putF ⟨n, p, v⟩ (keepF T n p k)))
      rw [hlen]
      clear hp1 hp2 hp3 hrow hSm hlS hmem hmemP hAL2 hmo SO hMn
      generalize putF ⟨n, p, v⟩ (keepF T n p k) = DD at *
      have hDl : DD.length ≤ 31 := by omega
      have G2 := hide (GC2.out (some ⟨g, 0, none⟩) vc DD.length (TF DD) w5 (by omega) hlow hRF)
      have O2 := hide (fun w R => OW.out (some ⟨g, 0, none⟩) vc DD.length (TF DD) w (by omega) hone R)
      clear GC2 OW hlow hone hl hlen
      go_wp2_with fail
      refine (G2.out).mono ?_
      rintro e w6 ⟨rfl, b6⟩
      have d6 := below_step d5 b6
      have RF6 := hRF.below b6
      clear b6 hRF G2
      by_cases hgd : GC DD.length (TF DD)
      case neg =>
        rw [tB_f hgd]
        have hE := hide (hY.out.symm.trans (if_neg (by simp [tB_f hgd])))
        clear hY hgd O2
        go_wp2_with fail
        exact bodyPost_ret (v := .tuple #[.slice none 0 0, .bool GA.2]) (by rw [hE.out]; simp [results, Tryz.results67, go_sem]) rfl ⟨_, rfl, [], LsF.nil _ _, by rw [hE.out]; rfl, d6⟩
      rw [tB_t hgd]
      have hE := hide (hY.out.symm.trans (if_pos (tB_t hgd)))
      clear hY hgd
      go_wp2_with fail
      refine (O2.out _ RF6.any).mono ?_
      rintro e w7 ⟨u, rfl, L, L7, hL7, b7⟩
      have d7 := below_step d6 b7
      have L8 := L7.base d6.size
      have hL8 := hide (hL7.trans hls.out)
      clear L7 hL7 b7 O2
      go_wp2_with fail
      exact bodyPost_ret (v := .tuple #[u, .bool GA.2]) (by rw [hE.out]; simp [results, Tryz.results67, go_sem]) rfl ⟨_, rfl, L, L8, by rw [hE.out]; exact hL8.out, d7⟩
end Go.Proofs.YtnficndeblkjhaaGreatDoor
