/- DiffOf of the specification. -/
import Derived.Test.YtddbgmknbjdbcaaS15d
import Derived.Test.YtddbgmknbjdbcaaPlain15d
import Derived.Test.YtddbgmknbjdbcaaOwn15s
import Derived.Deep.RegionHeld3
namespace Go.Proofs.Ytddbgmknbjdbcaa
open Go.RowKit

set_option maxRecDepth 100000 in
set_option maxHeartbeats 3200000 in
theorem s_has (a : Option Addr) (N c : Nat) (T : Nat → Lf) (a1 : Option Addr) (n c1 : Nat) (p : Nat → ByteArray) (w : World) (hN : N ≤ 1048576) (hl : LowF N T) (hR : RowF true a N T w) (Q0 : RowStr a1 n p w) :
    Calls Try.prog 69 #[.slice a N c, .slice a1 n c1] w fun e w' => e = .returned (.string (valA N T n p).1) ∧ Below w.heap.size w w' := by
  have HN := hide (fun h => valA_none (N := N) (T := T) (n := n) (p := p) h)
  generalize hVA0 : valA N T n p = VA at *
  have hVA := hide hVA0
  clear hVA0
  go_enter Try.func69, Try.ntmps69
  go_wp2_with fail
  go_loopw [6, 9] (fun _ y wr => ∃ k : Nat, y = .int .i64 k ∧ k ≤ N ∧ Hid (∀ i, i < k → ¬ SameP (T i) n p) ∧ Below w.heap.size w wr) (fun _ y _ => N - (intOf y).toNat)
  case atStart => exact ⟨0, rfl, Nat.zero_le _, fun i hi => absurd hi (by omega), Below.refl _ _⟩
  case round =>
    obtain ⟨k, rfl, hk, hx, hb⟩ := hrel
    by_cases hlt : k < N
    · obtain ⟨b0, off, a0, c0, rfl, hbw, u0, u1, _, R0⟩ := hR k hlt
      replace u0 := (hb.cell (p := ⟨b0, off + k * 2, none⟩) hbw).trans u0
      replace u1 := (hb.cell (p := ⟨b0, off + k * 2 + 1, none⟩) hbw).trans u1
      have hlt' : (k : Int) < (N : Int) := by omega
      have lk := (hl k hlt).1
      have hS := hide (fun h g => hVA.out.symm.trans (valA_some (T := T) (n := n) (p := p) hlt h g))
      have hN2 : Hid (¬ SameP (T k) n p → ∀ i, i < k + 1 → ¬ SameP (T i) n p) := fun h i hi => by
        by_cases e : i = k
        · subst e; exact h
        · exact hx.out i (by omega)
      have M := Mut.new wr #[.slice a0 (T k).n c0, .string (T k).v] 64
      have d1 : Below w.heap.size w (wr.alloc (.cells #[.slice a0 (T k).n c0, .string (T k).v] 64)) := below_step hb (below_box (Below.refl _ _))
      have S := hide (fun w R Q => s_same15 a0 a1 (T k).n n c0 c1 (T k).p p w lk R Q)
      by_cases hs : SameP (T k) n p
      · have hE := hide (hS.out hs hx.out)
        have hs' : tB (SameP (T k) n p) = true := tB_t hs
        unfold SameP at hs'
        rw [hs'] at S
        clear hVA hS hN2 hx hs hs' hR hl HN
        generalize T k = t at *
        obtain ⟨tn, tp, tv⟩ := t
        dsimp only at *
        go_wp2_with fail
        generalize wr.alloc (.cells #[.slice a0 tn c0, .string tv] 64) = w1 at *
        generalize wr.heap.size = bx at *
        refine (S.out _ (R0.below d1) (Q0.below d1)).mono ?_
        rintro e w2 ⟨rfl, b2⟩
        replace M := M.below b2
        have d2 := d1.trans (b2.mono d1.size)
        have q1 := M.2.1 1 _ rfl
        clear b2 d1 u0 u1 hb
        go_wp2_with fail
        go_ret
        exact ⟨by rw [hE.out]; rfl, d2⟩
      · replace hN2 := hide (hN2.out hs)
        have hs' : tB (SameP (T k) n p) = false := tB_f hs
        unfold SameP at hs'
        rw [hs'] at S
        clear hVA hS hx hs hs' hR hl HN
        generalize T k = t at *
        obtain ⟨tn, tp, tv⟩ := t
        dsimp only at *
        go_wp2_with fail
        generalize wr.alloc (.cells #[.slice a0 tn c0, .string tv] 64) = w1 at *
        generalize wr.heap.size = bx at *
        refine (S.out _ (R0.below d1) (Q0.below d1)).mono ?_
        rintro e w2 ⟨rfl, b2⟩
        have d2 := d1.trans (b2.mono d1.size)
        clear b2 d1 u0 u1 hb M
        go_wp2_with fail
        exact ⟨⟨k + 1, by go_num, by omega, hN2.out, d2⟩, by simp [intOf]; omega⟩
    · have hlt' : ¬ (k : Int) < (N : Int) := by omega
      obtain rfl : k = N := by omega
      have hE := hide (HN.out hx.out)
      clear hx hR hl HN
      go_wp2_with fail
      go_ret
      exact ⟨by rw [hE.out]; rfl, hb⟩
set_option maxRecDepth 100000 in
set_option maxHeartbeats 6400000 in
theorem s_diff15 (a : Option Addr) (N c : Nat) (A : Nat → Lf) (a1 : Option Addr) (M c1 : Nat) (B : Nat → Lf) (w : World) (hN : N ≤ 1048576) (hl : LowF N A) (hM : M ≤ 1048576) (hl2 : LowF M B) (hR : RowF true a N A w) (hR2 : RowF true a1 M B w) (hg : GC N A) (hg2 : GC M B) :
    Calls Try.prog 52 #[.slice a N c, .slice a1 M c1] w fun e w' => ∃ v, e = .returned v ∧ ∃ L, LsC w.heap.size v L w' ∧ L.map (·.c) = dif1 A M B N ++ dif2 N A B M ∧ Below w.heap.size w w' := by
  have d2 : Below w.heap.size w w := Below.refl _ _
  have hn30 : N ≤ 30 := hg.2
  have hn31 : M ≤ 30 := hg2.2
  go_enter Try.func52, Try.ntmps52
  go_wp2_with fail
  go_loopw [5, 7, 12] (fun x _ y wr => ∃ (k : Nat) (L : List EC15), y = .int .i64 k ∧ k ≤ N ∧ L.length ≤ k ∧ LsC w.heap.size x L wr ∧ Hid (L.map (·.c) = dif1 A M B k) ∧ Below w.heap.size w wr) (fun _ _ y _ => N - (intOf y).toNat)
  case atStart => exact ⟨0, [], rfl, Nat.zero_le _, Nat.le_refl _, LsC.nil _ _, rfl, d2⟩
  case round =>
    clear d2
    obtain ⟨k, L, rfl, hk, hMk, LL, hm, hb⟩ := hrel
    by_cases hlt : k < N
    · obtain ⟨b0, off, a0, c0, hva, hbw, u0, u1, hc0, R0⟩ := hR k hlt
      subst hva
      replace u0 := (hb.cell (p := ⟨b0, off + k * 2, none⟩) hbw).trans u0
      replace u1 := (hb.cell (p := ⟨b0, off + k * 2 + 1, none⟩) hbw).trans u1
      have hlt' : (k : Int) < (N : Int) := by omega
      have MB := Mut.new wr #[.slice a0 (A k).n c0, .string (A k).v] 64
      have bB : Below wr.heap.size wr (wr.alloc (.cells #[.slice a0 (A k).n c0, .string (A k).v] 64)) := below_box (Below.refl _ _)
      have d1 := below_step hb bB
      have LL1 := LL.below bB
      have hob : Hid (∀ b, u5.ownBlock = some b → b < wr.heap.size) := fun b hq => (ownW_lt LL.1 hq).2
      have hxl : Hid (∀ z, z ∈ L → z.x < wr.heap.size) := fun z hz => LL.lt hz
      have hbs0 := hb.size
      have lk := (hl k hlt).1
      have l0 := (hg.1 k hlt).1.1
      have S := hide (fun w R Q => s_has a1 M c1 B a0 (A k).n c0 (A k).p w hM hl2 R Q)
      have hP : (valA M B (A k).n (A k).p).1 = ⟨#[]⟩ ↔ (valA M B (A k).n (A k).p).2 = false := wp1 hg2
      by_cases hs : (valA M B (A k).n (A k).p).1 = ⟨#[]⟩
      · have RB := hR2
        have hmN := hide (fun (x q : Nat) => (show (L ++ [(⟨false, ⟨(A k).n, (A k).p, ⟨#[]⟩⟩, x, q⟩ : EC15)]).map (·.c) = dif1 A M B (k + 1) by
          unfold dif1
          rw [flt15_yes (P := fun i => (valA M B (A i).n (A i).p).1 = ⟨#[]⟩) hs, List.map_append, hm.out]; rfl))
        rw [hs] at S
        clear hm hR hR2 hl hl2 LL bB hb hg hg2 hP hs
        generalize A k = t at *
        obtain ⟨tn, tp, tv⟩ := t
        dsimp only at *
        go_wp2_with fail
        generalize wr.alloc (.cells #[.slice a0 tn c0, .string tv] 64) = w1 at *
        generalize wr.heap.size = bx at *
        refine (S.out _ (RB.below d1) (R0.below d1)).mono ?_
        rintro e w3 ⟨rfl, b3⟩
        have d3 := d1.trans (b3.mono d1.size)
        replace LL1 := LL1.below b3
        replace MB := MB.below b3
        clear b3 d1 u0 u1
        have hbs := d3.size
        have hbx : bx < w3.heap.size := MB.1
        have k0 := MB.2.1 0 _ rfl
        have k1 := MB.2.1 1 _ rfl
        have vob : Hid (u5.ownBlock ≠ some bx) := fun e => by have := hob.out _ e; omega
        have hvX : Hid (∀ g, w3.heap.size ≤ g → u5.ownBlock ≠ some g) := fun g hg e => by have := hob.out _ e; omega
        have KP := hide (fun w' (h : Mut w' bx [.slice a0 tn c0, .string tv]) => And.intro (h.2.1 0 _ rfl) (h.2.1 1 _ rfl))
        have RW0 := hide (R0.below d3)
        have hlen9 : Hid (L.length + 1 ≤ 8589934593) := by show _ ≤ _; omega
        have h1c : Hid (∀ (x q : Nat), ∀ u ∈ ([.bool false, .slice (some ⟨x, 0, none⟩) tn q, .string ⟨#[]⟩] : List Value), u.oneCell' = true) := fun x q => ecf_one ⟨false, ⟨tn, tp, ⟨#[]⟩⟩, x, q⟩
        have hl15 := hide (listS_len tn tp)
        have hl16 : Hid (([] : List ByteArray).length + (listS tn tp).length ≤ 8589934593) := by show _ ≤ _; rw [hl15.out]; simp; omega
        have own0 : OwnT 9 w3.heap.size (.slice (some ⟨w3.heap.size, 0, none⟩) 0 0) [] (w3.alloc (.cells #[] 9)) := by simpa [tcells] using ownT_made 9 w3 [] (by simp)
        have srcW : SrcT a0 (listS tn tp) c0 w3 := by
          obtain ⟨ba, oa, ha0, _, _⟩ := RW0.out 0 l0
          exact ⟨RowT.of_str RW0.out, .inr ⟨ba, oa, ha0⟩⟩
        have src0 := srcW.below (below_box (o := .cells #[] 9) (Below.refl _ _))
        go_wp2_with (first | (have hq := LLC; at_builtin; refine wpList_appW cmdT rfl _ _ rfl w.heap.size _ L.length (ecs L) rfl (ownW_below ownC (below_box (Below.refl _ _))) wC.heap.size 0 1 1 [.bool false, .slice (some ⟨g, 0, none⟩) tn cap, .string ⟨#[]⟩] rfl rfl (RowW.mut (Mut.new wC _ _)) (h1c.out g cap) hlen9.out (by decide) (Nat.le_trans hbC (below_box (Below.refl _ _)).size) ?_; intro v9 w9 own9 b9 gr9 ob9; have dA := (d3.trans (dC.mono d3.size)).trans ((show Below wC.heap.size wC (wC.alloc (.cells #[.bool false, .slice (some ⟨g, 0, none⟩) tn cap, .string ⟨#[]⟩] 71)) from (below_box (Below.refl _ _))).mono hbC); have L9 := (LLC.below (below_box (Below.refl _ _))).push (e := ⟨false, ⟨tn, tp, ⟨#[]⟩⟩, g, cap⟩) hgb hcap (oC.below (below_box (Below.refl _ _))) hzC hvC (show OwnW 71 3 w.heap.size v9 (L.length + 1) (ecs L ++ ecf ⟨false, ⟨tn, tp, ⟨#[]⟩⟩, g, cap⟩) w9 from own9) gr9 ob9) | (at_builtin; refine wpList_appT strT rfl _ _ rfl w3.heap.size _ [] rfl own0 a0 (listS tn tp) tn c0 rfl hl15.out.symm src0 hl16.out (by decide) (by simp) ?_; intro v8 wC own8 b8 _ _; rw [List.nil_append] at own8; obtain ⟨g, cap, rfl, hcap, hg, oC⟩ := ownT_outS own8 l0; have bZ : Below w3.heap.size w3 (w3.alloc (.cells #[] 9)) := below_box (Below.refl _ _); have dC : Below w3.heap.size w3 wC := bZ.trans b8; have hgb : w.heap.size ≤ g := Nat.le_trans hbs hg; have hkC := KP.out _ (MB.below dC); have LLC := LL1.below dC; have ownC := LLC.1; have hbC : w.heap.size ≤ wC.heap.size := Nat.le_trans hbs dC.size; have hzC : ∀ z, z ∈ L → z.x ≠ g := (fun z hz => by have := hxl.out z hz; omega); have hvC := hvX.out g hg))
        have D9 := dA.trans b9
        have hmN := hmN.out g cap
        clear own0 src0 srcW own8 b8 bZ LLC ownC oC dC hzC hvC hg hgb hcap hob hxl LL1 h1c hvX KP k0 k1 vob MB hkC own9 gr9 ob9 dA b9
        go_wp2_with fail
        exact ⟨⟨k + 1, _, by go_num, by omega, by simp; omega, L9, hmN, D9⟩, by simp [intOf]; omega⟩
      · have RB := hR2
        have hmN : Hid (L.map (·.c) = dif1 A M B (k + 1)) := hm.out.trans (flt15_no (P := fun i => (valA M B (A i).n (A i).p).1 = ⟨#[]⟩) hs).symm
        have kN : ¬ (valA M B (A k).n (A k).p).1.toList = [] := fun e => hs (toList_inj (e.trans (by simp)))
        have kE : (valA M B (A k).n (A k).p).1.toList.isEmpty = false := by simpa using kN
        generalize (valA M B (A k).n (A k).p).1 = vv at *
        clear hm hR hR2 hl hl2 LL bB hb hg hg2 hP hs
        generalize A k = t at *
        obtain ⟨tn, tp, tv⟩ := t
        dsimp only at *
        go_wp2_with fail
        generalize wr.alloc (.cells #[.slice a0 tn c0, .string tv] 64) = w1 at *
        generalize wr.heap.size = bx at *
        refine (S.out _ (RB.below d1) (R0.below d1)).mono ?_
        rintro e w3 ⟨rfl, b3⟩
        have d3 := d1.trans (b3.mono d1.size)
        replace LL1 := LL1.below b3
        replace MB := MB.below b3
        clear b3 d1 u0 u1
        clear MB
        go_wp2_with fail
        exact ⟨⟨k + 1, L, by go_num, by omega, by omega, LL1, hmN.out, d3⟩, by simp [intOf]; omega⟩

    · have hlt' : ¬ (k : Int) < (N : Int) := by omega
      obtain rfl : k = N := by omega
      have hD1 := hide hm.out
      have hL1 := hMk
      clear hm hlt hlt' hk
      go_wp2_with fail
      go_loopw [5, 9, 32] (fun x _ y wr => ∃ (q : Nat) (L : List EC15), y = .int .i64 q ∧ q ≤ M ∧ L.length ≤ k + q ∧ LsC w.heap.size x L wr ∧ Hid (L.map (·.c) = dif1 A M B k ++ dif2 k A B q) ∧ Below w.heap.size w wr) (fun _ _ y _ => M - (intOf y).toNat)
      case atStart => exact ⟨0, L, rfl, Nat.zero_le _, by omega, LL, by show _ = _; rw [hD1.out]; simp [dif2, flt15], hb⟩
      case round =>
        clear LL hb hD1 hL1 hMk L
        obtain ⟨q, L, rfl, hq, hMk, LL, hm, hb⟩ := hrel
        by_cases hlt : q < M
        · obtain ⟨b0, off, a0, c0, hva, hbw, u0, u1, hc0, R0⟩ := hR2 q hlt
          subst hva
          replace u0 := (hb.cell (p := ⟨b0, off + q * 2, none⟩) hbw).trans u0
          replace u1 := (hb.cell (p := ⟨b0, off + q * 2 + 1, none⟩) hbw).trans u1
          have hlt' : (q : Int) < (M : Int) := by omega
          have MB := Mut.new wr #[.slice a0 (B q).n c0, .string (B q).v] 64
          have bB : Below wr.heap.size wr (wr.alloc (.cells #[.slice a0 (B q).n c0, .string (B q).v] 64)) := below_box (Below.refl _ _)
          have d1 := below_step hb bB
          have LL1 := LL.below bB
          have hob : Hid (∀ b, u5.ownBlock = some b → b < wr.heap.size) := fun b hq => (ownW_lt LL.1 hq).2
          have hxl : Hid (∀ z, z ∈ L → z.x < wr.heap.size) := fun z hz => LL.lt hz
          have hbs0 := hb.size
          have lk := (hl2 q hlt).1
          have l0 := (hg2.1 q hlt).1.1
          have S := hide (fun w R Q => s_has a k c A a0 (B q).n c0 (B q).p w hN hl R Q)
          have hP : (valA k A (B q).n (B q).p).1 ≠ (B q).v ↔ ¬ ((valA k A (B q).n (B q).p).2 = true ∧ (valA k A (B q).n (B q).p).1 = (B q).v) := wp2 (hg2.1 q hlt).2.1
          have RB := hR
          by_cases hs : (valA k A (B q).n (B q).p).1 ≠ (B q).v
          · have hmN := hide (fun (x z : Nat) => (show (L ++ [(⟨true, B q, x, z⟩ : EC15)]).map (·.c) = dif1 A M B k ++ dif2 k A B (q + 1) by
              unfold dif2 at hm ⊢
              rw [flt15_yes (P := (fun i => (valA k A (B i).n (B i).p).1 ≠ (B i).v)) hs, List.map_append, hm.out, List.append_assoc]; rfl))
            have kv := sEq_f hs
            generalize (valA k A (B q).n (B q).p).1 = vv at *
            clear hs
            clear hm hR hR2 hl hl2 LL bB hb hg hg2 hP
            generalize B q = t at *
            obtain ⟨tn, tp, tv⟩ := t
            dsimp only at *
            go_wp2_with fail
            generalize wr.alloc (.cells #[.slice a0 tn c0, .string tv] 64) = w1 at *
            generalize wr.heap.size = bx at *
            have q0 := cell_regrown (MB.2.1 0 _ rfl)
            have q1 := cell_regrown (MB.2.1 1 _ rfl)
            have RB1 := RB.below d1
            have RC1 := R0.below d1
            go_wp2_with fail
            refine wp_region_quiet_below (by kernel_rfl) (by kernel_rfl) ?_
            repeat (first | go_big_quiet_step ((go_at_call 69; exact Calls.regrown_of (S.out _ (RB1.below (below_regrown _ _ _)) (RC1.below (below_regrown _ _ _))))) | quiet_step ((go_at_call 69; exact Calls.regrown_of (S.out _ (RB1.below (below_regrown _ _ _)) (RC1.below (below_regrown _ _ _))))))
            refine wpQuiet_nil ?_
            intro _ hw'
            obtain ⟨⟨dq, osq⟩, hw''⟩ := hw'
            subst hw''
            have hq2 := below_regrown w1 dq osq
            generalize Go.Sort.grow (redrawn w1 dq) osq = w3 at hq2 ⊢
            have d3 := d1.trans (hq2.mono d1.size)
            replace LL1 := LL1.below hq2
            replace MB := MB.below hq2
            clear hq2 d1 u0 u1 q0 q1 RB1 RC1
            have hbs := d3.size
            have hbx : bx < w3.heap.size := MB.1
            have k0 := MB.2.1 0 _ rfl
            have k1 := MB.2.1 1 _ rfl
            have vob : Hid (u5.ownBlock ≠ some bx) := fun e => by have := hob.out _ e; omega
            have hvX : Hid (∀ g, w3.heap.size ≤ g → u5.ownBlock ≠ some g) := fun g hg e => by have := hob.out _ e; omega
            have KP := hide (fun w' (h : Mut w' bx [.slice a0 tn c0, .string tv]) => And.intro (h.2.1 0 _ rfl) (h.2.1 1 _ rfl))
            have RW0 := hide (R0.below d3)
            have hlen9 : Hid (L.length + 1 ≤ 8589934593) := by show _ ≤ _; omega
            have h1c : Hid (∀ (x q : Nat), ∀ u ∈ ([.bool true, .slice (some ⟨x, 0, none⟩) tn q, .string tv] : List Value), u.oneCell' = true) := fun x q => ecf_one ⟨true, ⟨tn, tp, tv⟩, x, q⟩
            go_wp2_with fail
            have hkW : w3.cell? ⟨bx, 0, none⟩ = some (.slice a0 tn c0) ∧ w3.cell? ⟨bx, 1, none⟩ = some (.string tv) := ⟨k0, k1⟩
            have hl15 := hide (listS_len tn tp)
            have hl16 : Hid (([] : List ByteArray).length + (listS tn tp).length ≤ 8589934593) := by show _ ≤ _; rw [hl15.out]; simp; omega
            have own0 : OwnT 9 w3.heap.size (.slice (some ⟨w3.heap.size, 0, none⟩) 0 0) [] (w3.alloc (.cells #[] 9)) := by simpa [tcells] using ownT_made 9 w3 [] (by simp)
            have srcW : SrcT a0 (listS tn tp) c0 w3 := by
              obtain ⟨ba, oa, ha0, _, _⟩ := RW0.out 0 l0
              exact ⟨RowT.of_str RW0.out, .inr ⟨ba, oa, ha0⟩⟩
            have src0 := srcW.below (below_box (o := .cells #[] 9) (Below.refl _ _))
            have own0d : OwnT 9 w3.heap.size (.slice (some ⟨w3.heap.size, 0, none⟩) 0 0) [] (w3.drew.alloc (.cells #[] 9)) := by simpa [tcells] using ownT_made 9 w3.drew [] (by simp)
            have q1d : Below w3.drew.heap.size w3.drew (w3.drew.alloc (.cells #[] 9)) := below_box (Below.refl _ _)
            have src0d : SrcT a0 (listS tn tp) c0 (w3.drew.alloc (.cells #[] 9)) := srcW.below ((Below.refl w3.heap.size w3).drew.trans q1d)
            go_region_held3 (fun w' => w'.cell? ⟨bx, 0, none⟩ = some (.slice a0 tn c0) ∧ w'.cell? ⟨bx, 1, none⟩ = some (.string tv)) (first | with_reducible exact hk9 | with_reducible exact hkC | with_reducible exact hkW | go_keep)
              (first
                | (have hq := LLC; refine step_appW cmdT (by rfl) _ _ (by rfl) w.heap.size u5 L.length (ecs L) (by rfl) (by first | with_reducible exact ownW_below ownC (below_box (Below.refl _ _)) | with_reducible exact ownW_below ownC (below_box (Below.refl _ _)).drew) wC.heap.size 0 1 1 [.bool true, .slice (some ⟨g, 0, none⟩) tn cap, .string tv] (by rfl) (by rfl) (by first | with_reducible exact RowW.mut (Mut.new wC _ _) | with_reducible exact (RowW.mut (Mut.new wC _ _)).below (Below.refl _ _).drew) (h1c.out g cap) hlen9.out (by decide) (by first | exact Nat.le_trans hbC (below_box (Below.refl _ _)).size | (simp; omega)) ?_; intro v9 w9 own9 b9 gr9 ob9; replace own9 : OwnW 71 3 w.heap.size v9 (L.length + 1) (ecs L ++ ecf ⟨true, ⟨tn, tp, tv⟩, g, cap⟩) w9 := own9; have d9 : Below w.heap.size wC w9 := (by first | exact ((below_box (Below.refl _ _)).mono hbC).trans b9 | exact ((below_box (Below.refl _ _)).drew.mono hbC).trans b9); have hk9 := KP.out w9 (by first | with_reducible exact ((MB.below dC).below (below_box (Below.refl _ _))).grown15 gr9 vob.out | with_reducible exact ((MB.below dC).below (below_box (Below.refl _ _)).drew).grown15 gr9 vob.out); have L9 : LsC w.heap.size v9 (L ++ [⟨true, ⟨tn, tp, tv⟩, g, cap⟩]) w9 := (by first | with_reducible exact (LLC.below (below_box (Below.refl _ _))).push (e := ⟨true, ⟨tn, tp, tv⟩, g, cap⟩) hgb hcap (oC.below (below_box (Below.refl _ _))) hzC hvC own9 gr9 ob9 | with_reducible exact (LLC.below (below_box (Below.refl _ _)).drew).push (e := ⟨true, ⟨tn, tp, tv⟩, g, cap⟩) hgb hcap (oC.below (below_box (Below.refl _ _)).drew) hzC hvC own9 gr9 ob9))
                | (have hq := RW0; refine step_appT strT (by rfl) _ _ (by rfl) w3.heap.size _ [] (by rfl) (by first | with_reducible exact own0 | with_reducible exact ownT_below own0 (Below.refl _ _).drew | exact own0d) a0 (listS tn tp) tn c0 (by rfl) hl15.out.symm (by first | with_reducible exact src0 | with_reducible exact src0.below (Below.refl _ _).drew | exact src0d) hl16.out (by decide) (by simp) ?_; intro v8 wC own8 b8 _ _; rw [List.nil_append] at own8; obtain ⟨g, cap, rfl, hcap, hg, oC⟩ := ownT_outS own8 l0; have dC : Below w3.heap.size w3 wC := (by first | exact (below_box (Below.refl _ _)).trans b8 | exact ((below_box (Below.refl _ _)).trans (Below.refl _ _).drew).trans b8 | exact (Below.refl _ _).drew.trans ((below_box (Below.refl _ _)).trans b8)); have hgb : w.heap.size ≤ g := Nat.le_trans hbs hg; have hkC := KP.out _ (MB.below dC); have LLC := LL1.below dC; have ownC := LLC.1; have hbC : w.heap.size ≤ wC.heap.size := Nat.le_trans hbs dC.size; have hzC : ∀ z, z ∈ L → z.x ≠ g := (fun z hz => by have := hxl.out z hz; omega); have hvC := hvX.out g hg))
            all_goals
              have D9 : Below w.heap.size w w9 := d3.trans ((dC.mono d3.size).trans d9)
              have hmN := hmN.out g cap
              clear hk9 hkW k0 k1 d9 gr9 ob9 own9 ownC LLC oC dC hzC hvC hg hcap hob hxl KP MB LL1 hvX
              go_wp2_with fail
              exact ⟨⟨q + 1, _, by go_num, by omega, by simp; omega, L9, hmN, D9⟩, by simp [intOf]; omega⟩
          · have hs2 : (valA k A (B q).n (B q).p).1 = (B q).v := Classical.not_not.1 hs
            have hmN : Hid (L.map (·.c) = dif1 A M B k ++ dif2 k A B (q + 1)) := hm.out.trans (by unfold dif2; rw [flt15_no (P := (fun i => (valA k A (B i).n (B i).p).1 ≠ (B i).v)) hs])
            rw [hs2] at S
            clear hs hs2
            clear hm hR hR2 hl hl2 LL bB hb hg hg2 hP
            generalize B q = t at *
            obtain ⟨tn, tp, tv⟩ := t
            dsimp only at *
            go_wp2_with fail
            generalize wr.alloc (.cells #[.slice a0 tn c0, .string tv] 64) = w1 at *
            generalize wr.heap.size = bx at *
            have q0 := cell_regrown (MB.2.1 0 _ rfl)
            have q1 := cell_regrown (MB.2.1 1 _ rfl)
            have RB1 := RB.below d1
            have RC1 := R0.below d1
            go_wp2_with fail
            refine wp_region_quiet_below (by kernel_rfl) (by kernel_rfl) ?_
            repeat (first | go_big_quiet_step ((go_at_call 69; exact Calls.regrown_of (S.out _ (RB1.below (below_regrown _ _ _)) (RC1.below (below_regrown _ _ _))))) | quiet_step ((go_at_call 69; exact Calls.regrown_of (S.out _ (RB1.below (below_regrown _ _ _)) (RC1.below (below_regrown _ _ _))))))
            refine wpQuiet_nil ?_
            intro _ hw'
            obtain ⟨⟨dq, osq⟩, hw''⟩ := hw'
            subst hw''
            have hq2 := below_regrown w1 dq osq
            generalize Go.Sort.grow (redrawn w1 dq) osq = w3 at hq2 ⊢
            have d3 := d1.trans (hq2.mono d1.size)
            replace LL1 := LL1.below hq2
            replace MB := MB.below hq2
            clear hq2 d1 u0 u1 q0 q1 RB1 RC1
            clear MB
            go_wp2_with fail
            exact ⟨⟨q + 1, L, by go_num, by omega, by omega, LL1, hmN.out, d3⟩, by simp [intOf]; omega⟩

        · have hlt' : ¬ (q : Int) < (M : Int) := by omega
          obtain rfl : q = M := by omega
          have hm3 := hide hm.out
          clear hm hR hR2 hl hl2 hg hg2
          go_wp2_with fail
          go_ret
          exact ⟨_, rfl, L, LL, hm3.out, hb⟩
end Go.Proofs.Ytddbgmknbjdbcaa
