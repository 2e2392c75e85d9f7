/- What is got of a configuration, of the program. -/
import Derived.Test.YthkooojjhagkeaaI15c
import Derived.Test.YthkooojjhagkeaaPlain15b
namespace Go.Proofs.Ythkooojjhagkeaa
open Go.RowKit

set_option maxRecDepth 100000 in
set_option maxHeartbeats 3200000 in
theorem i_valueAt (a : Option Addr) (N c : Nat) (T : Nat → Lf) (a1 : Option Addr) (n c1 : Nat) (p : Nat → ByteArray) (w : World) (hN : N ≤ 1048576) (hl : LowF N T) (hR : RowF true a N T w) (Q0 : RowStr a1 n p w) :
    Calls Try.prog 42 #[.slice a N c, .slice a1 n c1] w fun e w' => e = .returned (.tuple #[.string (valA N T n p).1, .bool (valA N T n p).2]) ∧ Below w.heap.size w w' := by
  have HN := hide (fun h => valA_none (N := N) (T := T) (n := n) (p := p) h)
  generalize hVA0 : valA N T n p = VA at *
  have hVA := hide hVA0
  clear hVA0
  go_enter Try.func42, Try.ntmps42
  go_wp2_with fail
  go_loopw [7, 10] (fun _ y wr => ∃ k : Nat, y = .int .i64 k ∧ k ≤ N ∧ Hid (∀ i, i < k → ¬ SameP (T i) n p) ∧ Below w.heap.size w wr) (fun _ y _ => N - (intOf y).toNat)
  case atStart => exact ⟨0, rfl, Nat.zero_le _, fun i hi => absurd hi (by omega), Below.refl _ _⟩
  case round =>
    obtain ⟨k, rfl, hk, hx, hb⟩ := hrel
    by_cases hlt : k < N
    · obtain ⟨b0, off, a0, c0, rfl, hbw, u0, u1, _, R0⟩ := hR k hlt
      replace u0 := (hb.cell (p := ⟨b0, off + k * 2, none⟩) hbw).trans u0
      replace u1 := (hb.cell (p := ⟨b0, off + k * 2 + 1, none⟩) hbw).trans u1
      have hlt' : (k : Int) < (N : Int) := by omega
      have lk := (hl k hlt).1
      have hS := hide (fun h g => hVA.out.symm.trans (valA_some (T := T) (n := n) (p := p) hlt h g))
      have hN2 : Hid (¬ SameP (T k) n p → ∀ i, i < k + 1 → ¬ SameP (T i) n p) := fun h i hi => by
        by_cases e : i = k
        · subst e; exact h
        · exact hx.out i (by omega)
      have M := Mut.new wr #[.slice a0 (T k).n c0, .string (T k).v] 48
      have d1 : Below w.heap.size w (wr.alloc (.cells #[.slice a0 (T k).n c0, .string (T k).v] 48)) := below_step hb (below_box (Below.refl _ _))
      have S := hide (fun w R Q => i_eqP a0 a1 (T k).n n c0 c1 (T k).p p w lk R Q)
      by_cases hs : SameP (T k) n p
      · have hE := hide (hS.out hs hx.out)
        have hs' : tB (SameP (T k) n p) = true := tB_t hs
        unfold SameP at hs'
        rw [hs'] at S
        clear hVA hS hN2 hx hs hs' hR hl HN
        generalize T k = t at *
        obtain ⟨tn, tp, tv⟩ := t
        dsimp only at *
        go_wp2_with fail
        generalize wr.alloc (.cells #[.slice a0 tn c0, .string tv] 48) = w1 at *
        generalize wr.heap.size = bx at *
        refine (S.out _ (R0.below d1) (Q0.below d1)).mono ?_
        rintro e w2 ⟨rfl, b2⟩
        replace M := M.below b2
        have d2 := d1.trans (b2.mono d1.size)
        have q1 := M.2.1 1 _ rfl
        clear b2 d1 u0 u1 hb
        go_wp2_with fail
        exact bodyPost_ret (v := .tuple #[.string (VA).1, .bool (VA).2]) (by rw [hE.out]; simp [results, Try.results42, go_sem]) rfl ⟨rfl, d2⟩
      · replace hN2 := hide (hN2.out hs)
        have hs' : tB (SameP (T k) n p) = false := tB_f hs
        unfold SameP at hs'
        rw [hs'] at S
        clear hVA hS hx hs hs' hR hl HN
        generalize T k = t at *
        obtain ⟨tn, tp, tv⟩ := t
        dsimp only at *
        go_wp2_with fail
        generalize wr.alloc (.cells #[.slice a0 tn c0, .string tv] 48) = w1 at *
        generalize wr.heap.size = bx at *
        refine (S.out _ (R0.below d1) (Q0.below d1)).mono ?_
        rintro e w2 ⟨rfl, b2⟩
        have d2 := d1.trans (b2.mono d1.size)
        clear b2 d1 u0 u1 hb M
        go_wp2_with fail
        exact ⟨⟨k + 1, by go_num, by omega, hN2.out, d2⟩, by simp [intOf]; omega⟩
    · have hlt' : ¬ (k : Int) < (N : Int) := by omega
      obtain rfl : k = N := by omega
      have hE := hide (HN.out hx.out)
      clear hx hR hl HN
      go_wp2_with fail
      exact bodyPost_ret (v := .tuple #[.string (VA).1, .bool (VA).2]) (by rw [hE.out]; simp [results, Try.results42, go_sem]) rfl ⟨rfl, hb⟩
set_option maxRecDepth 100000 in
set_option maxHeartbeats 1600000 in
theorem i_getAt (a : Option Addr) (N c : Nat) (T : Nat → Lf) (a1 : Option Addr) (n c1 : Nat) (p : Nat → ByteArray) (w : World) (hN : N ≤ 1048576) (hl : LowF N T) (hR : RowF true a N T w) (Q0 : RowStr a1 n p w) :
    Calls Try.prog 16 #[.slice a N c, .slice a1 n c1] w fun e w' => e = .returned (.tuple #[.string (getA N T n p).1, .bool (getA N T n p).2]) ∧ Below w.heap.size w w' := by
  have hY : Hid (GC N T → Pw n p → getA N T n p = valA N T n p) := fun h g => if_pos (tB_t ⟨h, g⟩)
  have hZ : Hid (¬ (GC N T ∧ Pw n p) → getA N T n p = (⟨#[]⟩, false)) := fun h => if_neg (by simp [tB_f h])
  have G := hide (fun w R => i_goodConfig a N c T w hN hl R)
  have W := hide (fun w R => i_isWay a1 n c1 p w R)
  have V := hide (fun w R Q => i_valueAt a N c T a1 n c1 p w hN hl R Q)
  generalize getA N T n p = GA at *
  go_enter Try.func16, Try.ntmps16
  go_wp2_with fail
  refine (G.out _ hR).mono ?_
  rintro e w1 ⟨rfl, b1⟩
  by_cases hg : GC N T
  case neg =>
    rw [tB_f hg]
    have hE := hide (hZ.out (fun h => hg h.1))
    clear hY hZ
    go_wp2_with fail
    exact bodyPost_ret (v := .tuple #[.string (GA).1, .bool (GA).2]) (by rw [hE.out]; simp [results, Try.results16, go_sem]) rfl ⟨rfl, b1⟩
  rw [tB_t hg]
  go_wp2_with fail
  refine (W.out _ (Q0.below b1)).mono ?_
  rintro e w2 ⟨rfl, b2⟩
  have d2 := below_step b1 b2
  by_cases hp : Pw n p
  case neg =>
    rw [tB_f hp]
    have hE := hide (hZ.out (fun h => hp h.2))
    clear hY hZ
    go_wp2_with fail
    exact bodyPost_ret (v := .tuple #[.string (GA).1, .bool (GA).2]) (by rw [hE.out]; simp [results, Try.results16, go_sem]) rfl ⟨rfl, d2⟩
  rw [tB_t hp]
  have hE := hide (hY.out hg hp)
  clear hY hZ
  go_wp2_with fail
  refine (V.out _ (hR.below d2) (Q0.below d2)).mono ?_
  rintro e w3 ⟨rfl, b3⟩
  have d3 := below_step d2 b3
  generalize valA N T n p = VA at *
  obtain ⟨v, b⟩ := VA
  go_wp2_with fail
  exact bodyPost_ret (v := .tuple #[.string (GA).1, .bool (GA).2]) (by rw [hE.out]; simp [results, Try.results16, go_sem]) rfl ⟨rfl, d3⟩
end Go.Proofs.Ythkooojjhagkeaa
