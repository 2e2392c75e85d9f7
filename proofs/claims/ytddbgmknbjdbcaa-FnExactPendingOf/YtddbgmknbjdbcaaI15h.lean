/- DiffOf of the program. -/
import Derived.Test.YtddbgmknbjdbcaaI15d
import Derived.Test.YtddbgmknbjdbcaaPlain15d
import Derived.Test.YtddbgmknbjdbcaaOwn15i
import Derived.Deep.RegionHeld3
namespace Go.Proofs.Ytddbgmknbjdbcaa
open Go.RowKit

set_option maxRecDepth 100000 in
set_option maxHeartbeats 6400000 in
theorem i_diffOf (a : Option Addr) (N c : Nat) (A : Nat → Lf) (a1 : Option Addr) (M c1 : Nat) (B : Nat → Lf) (w : World) (hN : N ≤ 1048576) (hl : LowF N A) (hM : M ≤ 1048576) (hl2 : LowF M B) (hR : RowF true a N A w) (hR2 : RowF true a1 M B w) :
    Calls Try.prog 53 #[.slice a N c, .slice a1 M c1] w fun e w' => ∃ v, e = .returned (.tuple #[v, .bool (difA N A M B).2]) ∧ ∃ L, LsC w.heap.size v L w' ∧ L.map (·.c) = (difA N A M B).1 ∧ Below w.heap.size w w' := by
  have hY : Hid (GC N A → GC M B → (dif1 A M B N ++ dif2 N A B M, true) = difA N A M B) := fun h g => by
    unfold difA
    rw [if_pos (tB_t ⟨h, g⟩)]
  have hZ : Hid (¬ (GC N A ∧ GC M B) → difA N A M B = ([], false)) := fun h => if_neg (by simp [tB_f h])
  have G := hide (fun w R => i_goodConfig a N c A w hN hl R)
  have G2 := hide (fun w R => i_goodConfig a1 M c1 B w hM hl2 R)
  generalize difA N A M B = GA at *
  go_enter Try.func53, Try.ntmps53
  go_wp2_with fail
  refine (G.out _ hR).mono ?_
  rintro e w1 ⟨rfl, b1⟩
  by_cases hg : GC N A
  case neg =>
    rw [tB_f hg]
    have hE := hide (hZ.out (fun h => hg h.1))
    clear hY hZ
    go_wp2_with fail
    exact bodyPost_ret (v := .tuple #[.slice none 0 0, .bool GA.2]) (by rw [hE.out]; simp [results, Try.results53, go_sem]) rfl ⟨_, rfl, [], LsC.nil _ _, by rw [hE.out]; rfl, b1⟩
  rw [tB_t hg]
  go_wp2_with fail
  refine (G2.out _ (hR2.below b1)).mono ?_
  rintro e w2 ⟨rfl, b2⟩
  have d2 := below_step b1 b2
  clear b1 b2 G G2
  by_cases hg2 : GC M B
  case neg =>
    rw [tB_f hg2]
    have hE := hide (hZ.out (fun h => hg2 h.2))
    clear hY hZ
    go_wp2_with fail
    exact bodyPost_ret (v := .tuple #[.slice none 0 0, .bool GA.2]) (by rw [hE.out]; simp [results, Try.results53, go_sem]) rfl ⟨_, rfl, [], LsC.nil _ _, by rw [hE.out]; rfl, d2⟩
  rw [tB_t hg2]
  replace hY := hide (hY.out hg hg2)
  clear hZ
  go_wp2_with fail
  go_loopw [6, 8, 9, 10, 25] (fun x _ _ _ y wr => ∃ (k : Nat) (L : List EC15), y = .int .i64 k ∧ k ≤ N ∧ L.length ≤ k ∧ LsC w.heap.size x L wr ∧ Hid (L.map (·.c) = dif1 A M B k) ∧ Below w.heap.size w wr) (fun _ _ _ _ y _ => N - (intOf y).toNat)
  case atStart => exact ⟨0, [], rfl, Nat.zero_le _, Nat.le_refl _, LsC.nil _ _, rfl, d2⟩
  case round =>
    clear d2
    obtain ⟨k, L, rfl, hk, hMk, LL, hm, hb⟩ := hrel
    by_cases hlt : k < N
    · obtain ⟨b0, off, a0, c0, hva, hbw, u0, u1, hc0, R0⟩ := hR k hlt
      subst hva
      replace u0 := (hb.cell (p := ⟨b0, off + k * 2, none⟩) hbw).trans u0
      replace u1 := (hb.cell (p := ⟨b0, off + k * 2 + 1, none⟩) hbw).trans u1
      have hlt' : (k : Int) < (N : Int) := by omega
      have MB := Mut.new wr #[.slice a0 (A k).n c0, .string (A k).v] 64
      have bB : Below wr.heap.size wr (wr.alloc (.cells #[.slice a0 (A k).n c0, .string (A k).v] 64)) := below_box (Below.refl _ _)
      have d1 := below_step hb bB
      have LL1 := LL.below bB
      have hob : Hid (∀ b, u6.ownBlock = some b → b < wr.heap.size) := fun b hq => (ownW_lt LL.1 hq).2
      have hxl : Hid (∀ z, z ∈ L → z.x < wr.heap.size) := fun z hz => LL.lt hz
      have hbs0 := hb.size
      have lk := (hl k hlt).1
      have l0 := (hg.1 k hlt).1.1
      have S := hide (fun w R Q => i_valueAt a1 M c1 B a0 (A k).n c0 (A k).p w hM hl2 R Q)
      have hP : (valA M B (A k).n (A k).p).1 = ⟨#[]⟩ ↔ (valA M B (A k).n (A k).p).2 = false := wp1 hg2
      by_cases hs : (valA M B (A k).n (A k).p).1 = ⟨#[]⟩
      · have RB := hR2
        have hmN := hide (fun (x q : Nat) => (show (L ++ [(⟨false, ⟨(A k).n, (A k).p, ⟨#[]⟩⟩, x, q⟩ : EC15)]).map (·.c) = dif1 A M B (k + 1) by
          unfold dif1
          rw [flt15_yes (P := fun i => (valA M B (A i).n (A i).p).1 = ⟨#[]⟩) hs, List.map_append, hm.out]; rfl))
        have hP2 := hP.1 hs
        generalize valA M B (A k).n (A k).p = va at *
        obtain ⟨vv, vb⟩ := va
        dsimp only at S hP2 hs
        subst hP2 hs
        clear hm hR hR2 hl hl2 LL bB hb hY hg hg2 hP
        generalize A k = t at *
        obtain ⟨tn, tp, tv⟩ := t
        dsimp only at *
        go_wp2_with fail
        generalize wr.alloc (.cells #[.slice a0 tn c0, .string tv] 64) = w1 at *
        generalize wr.heap.size = bx at *
        refine (S.out _ (RB.below d1) (R0.below d1)).mono ?_
        rintro e w3 ⟨rfl, b3⟩
        have d3 := d1.trans (b3.mono d1.size)
        replace LL1 := LL1.below b3
        replace MB := MB.below b3
        clear b3 d1 u0 u1
        have hbs := d3.size
        have hbx : bx < w3.heap.size := MB.1
        have k0 := MB.2.1 0 _ rfl
        have k1 := MB.2.1 1 _ rfl
        have vob : Hid (u6.ownBlock ≠ some bx) := fun e => by have := hob.out _ e; omega
        have hvX : Hid (∀ g, w3.heap.size ≤ g → u6.ownBlock ≠ some g) := fun g hg e => by have := hob.out _ e; omega
        have KP := hide (fun w' (h : Mut w' bx [.slice a0 tn c0, .string tv]) => And.intro (h.2.1 0 _ rfl) (h.2.1 1 _ rfl))
        have RW0 := hide (R0.below d3)
        have hlen9 : Hid (L.length + 1 ≤ 8589934593) := by show _ ≤ _; omega
        have h1c : Hid (∀ (x q : Nat), ∀ u ∈ ([.bool false, .slice (some ⟨x, 0, none⟩) tn q, .string ⟨#[]⟩] : List Value), u.oneCell' = true) := fun x q => ecf_one ⟨false, ⟨tn, tp, ⟨#[]⟩⟩, x, q⟩
        have CL := hide (fun w R => i_cloneS a0 tn c0 tp w l0 lk R)
        go_wp2_with fail
        refine (CL.out _ RW0.out).mono ?_
        rintro e wC ⟨g, cap, rfl, hg, hcap, oC, bC⟩
        have hgb : w.heap.size ≤ g := Nat.le_trans hbs hg
        have dC : Below w3.heap.size w3 wC := bC
        have hkC := KP.out _ (MB.below dC)
        have LLC := LL1.below dC
        have ownC := LLC.1
        have hbC : w.heap.size ≤ wC.heap.size := Nat.le_trans hbs dC.size
        have hzC : ∀ z, z ∈ L → z.x ≠ g := (fun z hz => by have := hxl.out z hz; omega)
        have hvC := hvX.out g hg
        have bA : Below wC.heap.size wC (wC.alloc (.cells #[.bool false, .slice (some ⟨g, 0, none⟩) tn cap, .string ⟨#[]⟩] 71)) := below_box (Below.refl _ _)
        have own4 := ownW_below ownC bA
        have LL4 := LLC.below bA
        have o4 := oC.below bA
        have hba := Nat.le_trans hbC bA.size
        have dA : Below w.heap.size w (wC.alloc (.cells #[.bool false, .slice (some ⟨g, 0, none⟩) tn cap, .string ⟨#[]⟩] 71)) := (d3.trans (dC.mono d3.size)).trans (bA.mono hbC)
        have RA : RowW (some ⟨wC.heap.size, 0, none⟩) [.bool false, .slice (some ⟨g, 0, none⟩) tn cap, .string ⟨#[]⟩] (wC.alloc (.cells #[.bool false, .slice (some ⟨g, 0, none⟩) tn cap, .string ⟨#[]⟩] 71)) := RowW.mut (Mut.new wC _ _)
        have h1d := hide (h1c.out g cap)
        clear hkC KP k0 k1 vob MB
        generalize hLM : L.length = LM at *
        generalize hAM : ecs L = AM at *
        go_wp2_with (first | (at_builtin; refine wpList_appW cmdT rfl _ _ rfl w.heap.size _ LM AM rfl own4 wC.heap.size 0 1 1 [.bool false, .slice (some ⟨g, 0, none⟩) tn cap, .string ⟨#[]⟩] rfl rfl RA h1d.out hlen9.out (by decide) hba ?_; intro v9 w9 own9 b9 gr9 ob9))
        subst hLM hAM
        have D9 := dA.trans b9
        have L9 := LL4.push (e := ⟨false, ⟨tn, tp, ⟨#[]⟩⟩, g, cap⟩) hgb hcap o4 hzC hvC (show OwnW 71 3 w.heap.size v9 (L.length + 1) (ecs L ++ ecf ⟨false, ⟨tn, tp, ⟨#[]⟩⟩, g, cap⟩) w9 from own9) gr9 ob9
        have hmN := hmN.out g cap
        clear own4 LL4 o4 RA dA b9 gr9 ob9 own9 ownC LLC oC dC bA hzC hvC hg hgb hcap hob hxl LL1 bC h1c h1d hvX
        go_wp2_with fail
        exact ⟨⟨k + 1, _, by go_num, by omega, by simp; omega, L9, hmN, D9⟩, by simp [intOf]; omega⟩
      · have RB := hR2
        have hmN : Hid (L.map (·.c) = dif1 A M B (k + 1)) := hm.out.trans (flt15_no (P := fun i => (valA M B (A i).n (A i).p).1 = ⟨#[]⟩) hs).symm
        have hP2 : (valA M B (A k).n (A k).p).2 = true := by
          cases e : (valA M B (A k).n (A k).p).2 with
          | true => rfl
          | false => exact absurd (hP.2 e) hs
        generalize valA M B (A k).n (A k).p = va at *
        obtain ⟨vv, vb⟩ := va
        dsimp only at S hP2
        subst hP2
        clear hm hR hR2 hl hl2 LL bB hb hY hg hg2 hP
        generalize A k = t at *
        obtain ⟨tn, tp, tv⟩ := t
        dsimp only at *
        go_wp2_with fail
        generalize wr.alloc (.cells #[.slice a0 tn c0, .string tv] 64) = w1 at *
        generalize wr.heap.size = bx at *
        refine (S.out _ (RB.below d1) (R0.below d1)).mono ?_
        rintro e w3 ⟨rfl, b3⟩
        have d3 := d1.trans (b3.mono d1.size)
        replace LL1 := LL1.below b3
        replace MB := MB.below b3
        clear b3 d1 u0 u1
        clear MB
        go_wp2_with fail
        exact ⟨⟨k + 1, L, by go_num, by omega, by omega, LL1, hmN.out, d3⟩, by simp [intOf]; omega⟩

    · have hlt' : ¬ (k : Int) < (N : Int) := by omega
      obtain rfl : k = N := by omega
      have hD1 := hide hm.out
      have hL1 := hMk
      clear hm hlt hlt' hk
      go_wp2_with fail
      go_loopw [6, 12, 13, 14, 48] (fun x _ _ _ y wr => ∃ (q : Nat) (L : List EC15), y = .int .i64 q ∧ q ≤ M ∧ L.length ≤ k + q ∧ LsC w.heap.size x L wr ∧ Hid (L.map (·.c) = dif1 A M B k ++ dif2 k A B q) ∧ Below w.heap.size w wr) (fun _ _ _ _ y _ => M - (intOf y).toNat)
      case atStart => exact ⟨0, L, rfl, Nat.zero_le _, by omega, LL, by show _ = _; rw [hD1.out]; simp [dif2, flt15], hb⟩
      case round =>
        clear LL hb hD1 hL1 hMk L
        obtain ⟨q, L, rfl, hq, hMk, LL, hm, hb⟩ := hrel
        by_cases hlt : q < M
        · obtain ⟨b0, off, a0, c0, hva, hbw, u0, u1, hc0, R0⟩ := hR2 q hlt
          subst hva
          replace u0 := (hb.cell (p := ⟨b0, off + q * 2, none⟩) hbw).trans u0
          replace u1 := (hb.cell (p := ⟨b0, off + q * 2 + 1, none⟩) hbw).trans u1
          have hlt' : (q : Int) < (M : Int) := by omega
          have MB := Mut.new wr #[.slice a0 (B q).n c0, .string (B q).v] 64
          have bB : Below wr.heap.size wr (wr.alloc (.cells #[.slice a0 (B q).n c0, .string (B q).v] 64)) := below_box (Below.refl _ _)
          have d1 := below_step hb bB
          have LL1 := LL.below bB
          have hob : Hid (∀ b, u6.ownBlock = some b → b < wr.heap.size) := fun b hq => (ownW_lt LL.1 hq).2
          have hxl : Hid (∀ z, z ∈ L → z.x < wr.heap.size) := fun z hz => LL.lt hz
          have hbs0 := hb.size
          have lk := (hl2 q hlt).1
          have l0 := (hg2.1 q hlt).1.1
          have S := hide (fun w R Q => i_valueAt a k c A a0 (B q).n c0 (B q).p w hN hl R Q)
          have hP : (valA k A (B q).n (B q).p).1 ≠ (B q).v ↔ ¬ ((valA k A (B q).n (B q).p).2 = true ∧ (valA k A (B q).n (B q).p).1 = (B q).v) := wp2 (hg2.1 q hlt).2.1
          have RB := hR
          cases hvb : (valA k A (B q).n (B q).p).2 with
          | false =>
            have hs : (valA k A (B q).n (B q).p).1 ≠ (B q).v := hP.2 (fun h => by rw [hvb] at h; cases h.1)
            have hmN := hide (fun (x z : Nat) => (show (L ++ [(⟨true, B q, x, z⟩ : EC15)]).map (·.c) = dif1 A M B k ++ dif2 k A B (q + 1) by
              unfold dif2 at hm ⊢
              rw [flt15_yes (P := (fun i => (valA k A (B i).n (B i).p).1 ≠ (B i).v)) hs, List.map_append, hm.out, List.append_assoc]; rfl))
            generalize valA k A (B q).n (B q).p = va at *
            obtain ⟨vv, vb⟩ := va
            dsimp only at *
            subst hvb
            clear hs
            clear hm hR hR2 hl hl2 LL bB hb hY hg hg2 hP
            generalize B q = t at *
            obtain ⟨tn, tp, tv⟩ := t
            dsimp only at *
            go_wp2_with fail
            generalize wr.alloc (.cells #[.slice a0 tn c0, .string tv] 64) = w1 at *
            generalize wr.heap.size = bx at *
            refine (S.out _ (RB.below d1) (R0.below d1)).mono ?_
            rintro e w3 ⟨rfl, b3⟩
            have d3 := d1.trans (b3.mono d1.size)
            replace LL1 := LL1.below b3
            replace MB := MB.below b3
            clear b3 d1 u0 u1
            have hbs := d3.size
            have hbx : bx < w3.heap.size := MB.1
            have k0 := MB.2.1 0 _ rfl
            have k1 := MB.2.1 1 _ rfl
            have vob : Hid (u6.ownBlock ≠ some bx) := fun e => by have := hob.out _ e; omega
            have hvX : Hid (∀ g, w3.heap.size ≤ g → u6.ownBlock ≠ some g) := fun g hg e => by have := hob.out _ e; omega
            have KP := hide (fun w' (h : Mut w' bx [.slice a0 tn c0, .string tv]) => And.intro (h.2.1 0 _ rfl) (h.2.1 1 _ rfl))
            have RW0 := hide (R0.below d3)
            have hlen9 : Hid (L.length + 1 ≤ 8589934593) := by show _ ≤ _; omega
            have h1c : Hid (∀ (x q : Nat), ∀ u ∈ ([.bool true, .slice (some ⟨x, 0, none⟩) tn q, .string tv] : List Value), u.oneCell' = true) := fun x q => ecf_one ⟨true, ⟨tn, tp, tv⟩, x, q⟩
            go_wp2_with fail
            have hkW : w3.cell? ⟨bx, 0, none⟩ = some (.slice a0 tn c0) ∧ w3.cell? ⟨bx, 1, none⟩ = some (.string tv) := ⟨k0, k1⟩
            have CL := hide (fun w R => i_cloneS a0 tn c0 tp w l0 lk R)
            go_region_held3 (fun w' => w'.cell? ⟨bx, 0, none⟩ = some (.slice a0 tn c0) ∧ w'.cell? ⟨bx, 1, none⟩ = some (.string tv)) (first | with_reducible exact hk9 | with_reducible exact hkC | with_reducible exact hkW | go_keep)
              (first
                | (have hq := LLC; refine step_appW cmdT (by rfl) _ _ (by rfl) w.heap.size u6 L.length (ecs L) (by rfl) (by first | with_reducible exact ownW_below ownC (below_box (Below.refl _ _)) | with_reducible exact ownW_below ownC (below_box (Below.refl _ _)).drew) wC.heap.size 0 1 1 [.bool true, .slice (some ⟨g, 0, none⟩) tn cap, .string tv] (by rfl) (by rfl) (by first | with_reducible exact RowW.mut (Mut.new wC _ _) | with_reducible exact (RowW.mut (Mut.new wC _ _)).below (Below.refl _ _).drew) (h1c.out g cap) hlen9.out (by decide) (by first | exact Nat.le_trans hbC (below_box (Below.refl _ _)).size | (simp; omega)) ?_; intro v9 w9 own9 b9 gr9 ob9; replace own9 : OwnW 71 3 w.heap.size v9 (L.length + 1) (ecs L ++ ecf ⟨true, ⟨tn, tp, tv⟩, g, cap⟩) w9 := own9; have d9 : Below w.heap.size wC w9 := (by first | exact ((below_box (Below.refl _ _)).mono hbC).trans b9 | exact ((below_box (Below.refl _ _)).drew.mono hbC).trans b9); have hk9 := KP.out w9 (by first | with_reducible exact ((MB.below dC).below (below_box (Below.refl _ _))).grown15 gr9 vob.out | with_reducible exact ((MB.below dC).below (below_box (Below.refl _ _)).drew).grown15 gr9 vob.out); have L9 : LsC w.heap.size v9 (L ++ [⟨true, ⟨tn, tp, tv⟩, g, cap⟩]) w9 := (by first | with_reducible exact (LLC.below (below_box (Below.refl _ _))).push (e := ⟨true, ⟨tn, tp, tv⟩, g, cap⟩) hgb hcap (oC.below (below_box (Below.refl _ _))) hzC hvC own9 gr9 ob9 | with_reducible exact (LLC.below (below_box (Below.refl _ _)).drew).push (e := ⟨true, ⟨tn, tp, tv⟩, g, cap⟩) hgb hcap (oC.below (below_box (Below.refl _ _)).drew) hzC hvC own9 gr9 ob9))
                | (go_at_call 67; refine (CL.out _ (by first | with_reducible exact RW0.out | with_reducible exact RW0.out.below (Below.refl _ _).drew)).mono ?_; rintro e wC ⟨g, cap, rfl, hg, hcap, oC, bC⟩; have dC : Below w3.heap.size w3 wC := (by first | exact bC | exact below_drew0 bC); replace hg : w3.heap.size ≤ g := (by first | exact hg | simpa using hg); have hgb : w.heap.size ≤ g := Nat.le_trans hbs hg; have hkC := KP.out _ (MB.below dC); have LLC := LL1.below dC; have ownC := LLC.1; have hbC : w.heap.size ≤ wC.heap.size := Nat.le_trans hbs dC.size; have hzC : ∀ z, z ∈ L → z.x ≠ g := (fun z hz => by have := hxl.out z hz; omega); have hvC := hvX.out g hg))
            all_goals
              have D9 : Below w.heap.size w w9 := d3.trans ((dC.mono d3.size).trans d9)
              have hmN := hmN.out g cap
              clear hk9 hkW k0 k1 d9 gr9 ob9 own9 ownC LLC oC dC hzC hvC hg hcap hob hxl KP MB LL1 hvX
              go_wp2_with fail
              exact ⟨⟨q + 1, _, by go_num, by omega, by simp; omega, L9, hmN, D9⟩, by simp [intOf]; omega⟩
          | true =>
            by_cases hs : (valA k A (B q).n (B q).p).1 ≠ (B q).v
            · have hmN := hide (fun (x z : Nat) => (show (L ++ [(⟨true, B q, x, z⟩ : EC15)]).map (·.c) = dif1 A M B k ++ dif2 k A B (q + 1) by
                unfold dif2 at hm ⊢
                rw [flt15_yes (P := (fun i => (valA k A (B i).n (B i).p).1 ≠ (B i).v)) hs, List.map_append, hm.out, List.append_assoc]; rfl))
              have kv := sEq_f hs
              generalize valA k A (B q).n (B q).p = va at *
              obtain ⟨vv, vb⟩ := va
              dsimp only at *
              subst hvb
              clear hs
              clear hm hR hR2 hl hl2 LL bB hb hY hg hg2 hP
              generalize B q = t at *
              obtain ⟨tn, tp, tv⟩ := t
              dsimp only at *
              go_wp2_with fail
              generalize wr.alloc (.cells #[.slice a0 tn c0, .string tv] 64) = w1 at *
              generalize wr.heap.size = bx at *
              refine (S.out _ (RB.below d1) (R0.below d1)).mono ?_
              rintro e w3 ⟨rfl, b3⟩
              have d3 := d1.trans (b3.mono d1.size)
              replace LL1 := LL1.below b3
              replace MB := MB.below b3
              clear b3 d1 u0 u1
              have hbs := d3.size
              have hbx : bx < w3.heap.size := MB.1
              have k0 := MB.2.1 0 _ rfl
              have k1 := MB.2.1 1 _ rfl
              have vob : Hid (u6.ownBlock ≠ some bx) := fun e => by have := hob.out _ e; omega
              have hvX : Hid (∀ g, w3.heap.size ≤ g → u6.ownBlock ≠ some g) := fun g hg e => by have := hob.out _ e; omega
              have KP := hide (fun w' (h : Mut w' bx [.slice a0 tn c0, .string tv]) => And.intro (h.2.1 0 _ rfl) (h.2.1 1 _ rfl))
              have RW0 := hide (R0.below d3)
              have hlen9 : Hid (L.length + 1 ≤ 8589934593) := by show _ ≤ _; omega
              have h1c : Hid (∀ (x q : Nat), ∀ u ∈ ([.bool true, .slice (some ⟨x, 0, none⟩) tn q, .string tv] : List Value), u.oneCell' = true) := fun x q => ecf_one ⟨true, ⟨tn, tp, tv⟩, x, q⟩
              go_wp2_with fail
              have hkW : w3.cell? ⟨bx, 0, none⟩ = some (.slice a0 tn c0) ∧ w3.cell? ⟨bx, 1, none⟩ = some (.string tv) := ⟨k0, k1⟩
              have CL := hide (fun w R => i_cloneS a0 tn c0 tp w l0 lk R)
              go_region_held3 (fun w' => w'.cell? ⟨bx, 0, none⟩ = some (.slice a0 tn c0) ∧ w'.cell? ⟨bx, 1, none⟩ = some (.string tv)) (first | with_reducible exact hk9 | with_reducible exact hkC | with_reducible exact hkW | go_keep)
                (first
                  | (have hq := LLC; refine step_appW cmdT (by rfl) _ _ (by rfl) w.heap.size u6 L.length (ecs L) (by rfl) (by first | with_reducible exact ownW_below ownC (below_box (Below.refl _ _)) | with_reducible exact ownW_below ownC (below_box (Below.refl _ _)).drew) wC.heap.size 0 1 1 [.bool true, .slice (some ⟨g, 0, none⟩) tn cap, .string tv] (by rfl) (by rfl) (by first | with_reducible exact RowW.mut (Mut.new wC _ _) | with_reducible exact (RowW.mut (Mut.new wC _ _)).below (Below.refl _ _).drew) (h1c.out g cap) hlen9.out (by decide) (by first | exact Nat.le_trans hbC (below_box (Below.refl _ _)).size | (simp; omega)) ?_; intro v9 w9 own9 b9 gr9 ob9; replace own9 : OwnW 71 3 w.heap.size v9 (L.length + 1) (ecs L ++ ecf ⟨true, ⟨tn, tp, tv⟩, g, cap⟩) w9 := own9; have d9 : Below w.heap.size wC w9 := (by first | exact ((below_box (Below.refl _ _)).mono hbC).trans b9 | exact ((below_box (Below.refl _ _)).drew.mono hbC).trans b9); have hk9 := KP.out w9 (by first | with_reducible exact ((MB.below dC).below (below_box (Below.refl _ _))).grown15 gr9 vob.out | with_reducible exact ((MB.below dC).below (below_box (Below.refl _ _)).drew).grown15 gr9 vob.out); have L9 : LsC w.heap.size v9 (L ++ [⟨true, ⟨tn, tp, tv⟩, g, cap⟩]) w9 := (by first | with_reducible exact (LLC.below (below_box (Below.refl _ _))).push (e := ⟨true, ⟨tn, tp, tv⟩, g, cap⟩) hgb hcap (oC.below (below_box (Below.refl _ _))) hzC hvC own9 gr9 ob9 | with_reducible exact (LLC.below (below_box (Below.refl _ _)).drew).push (e := ⟨true, ⟨tn, tp, tv⟩, g, cap⟩) hgb hcap (oC.below (below_box (Below.refl _ _)).drew) hzC hvC own9 gr9 ob9))
                  | (go_at_call 67; refine (CL.out _ (by first | with_reducible exact RW0.out | with_reducible exact RW0.out.below (Below.refl _ _).drew)).mono ?_; rintro e wC ⟨g, cap, rfl, hg, hcap, oC, bC⟩; have dC : Below w3.heap.size w3 wC := (by first | exact bC | exact below_drew0 bC); replace hg : w3.heap.size ≤ g := (by first | exact hg | simpa using hg); have hgb : w.heap.size ≤ g := Nat.le_trans hbs hg; have hkC := KP.out _ (MB.below dC); have LLC := LL1.below dC; have ownC := LLC.1; have hbC : w.heap.size ≤ wC.heap.size := Nat.le_trans hbs dC.size; have hzC : ∀ z, z ∈ L → z.x ≠ g := (fun z hz => by have := hxl.out z hz; omega); have hvC := hvX.out g hg))
              all_goals
                have D9 : Below w.heap.size w w9 := d3.trans ((dC.mono d3.size).trans d9)
                have hmN := hmN.out g cap
                clear hk9 hkW k0 k1 d9 gr9 ob9 own9 ownC LLC oC dC hzC hvC hg hcap hob hxl KP MB LL1 hvX
                go_wp2_with fail
                exact ⟨⟨q + 1, _, by go_num, by omega, by simp; omega, L9, hmN, D9⟩, by simp [intOf]; omega⟩
            · have hs2 : (valA k A (B q).n (B q).p).1 = (B q).v := Classical.not_not.1 hs
              have hmN : Hid (L.map (·.c) = dif1 A M B k ++ dif2 k A B (q + 1)) := hm.out.trans (by unfold dif2; rw [flt15_no (P := (fun i => (valA k A (B i).n (B i).p).1 ≠ (B i).v)) hs])
              generalize valA k A (B q).n (B q).p = va at *
              obtain ⟨vv, vb⟩ := va
              dsimp only at *
              subst hvb hs2
              clear hs
              clear hm hR hR2 hl hl2 LL bB hb hY hg hg2 hP
              generalize B q = t at *
              obtain ⟨tn, tp, tv⟩ := t
              dsimp only at *
              go_wp2_with fail
              generalize wr.alloc (.cells #[.slice a0 tn c0, .string tv] 64) = w1 at *
              generalize wr.heap.size = bx at *
              refine (S.out _ (RB.below d1) (R0.below d1)).mono ?_
              rintro e w3 ⟨rfl, b3⟩
              have d3 := d1.trans (b3.mono d1.size)
              replace LL1 := LL1.below b3
              replace MB := MB.below b3
              clear b3 d1 u0 u1
              have k1 := MB.2.1 1 _ rfl
              go_wp2_with fail
              clear k1
              clear MB
              exact ⟨⟨q + 1, L, by go_num, by omega, by omega, LL1, hmN.out, d3⟩, by simp [intOf]; omega⟩

        · have hlt' : ¬ (q : Int) < (M : Int) := by omega
          obtain rfl : q = M := by omega
          have hE := hide hY.out.symm
          have hm3 := hide hm.out
          clear hm hR hR2 hl hl2 hg hg2 hY
          go_wp2_with fail
          exact bodyPost_ret (v := .tuple #[_, .bool GA.2]) (by rw [hE.out]; simp [results, Try.results53, go_sem]) rfl ⟨_, rfl, L, LL, by rw [hE.out]; exact hm3.out, hb⟩
end Go.Proofs.Ytddbgmknbjdbcaa
