/- What is got of a configuration, of the program. -/
import Derived.Test.YtddbgmknbjdbcaaI15c
import Derived.Test.YtddbgmknbjdbcaaPlain15b
namespace Go.Proofs.Ytddbgmknbjdbcaa
open Go.RowKit

set_option maxRecDepth 100000 in
set_option maxHeartbeats 3200000 in
theorem i_valueAt (a : Option Addr) (N c : Nat) (T : Nat → Lf) (a1 : Option Addr) (n c1 : Nat) (p : Nat → ByteArray) (w : World) (hN : N ≤ 1048576) (hl : LowF N T) (hR : RowF true a N T w) (Q0 : RowStr a1 n p w) :
    Calls Try.prog 70 #[.slice a N c, .slice a1 n c1] w fun e w' => e = .returned (.tuple #[.string (valA N T n p).1, .bool (valA N T n p).2]) ∧ Below w.heap.size w w' := by
  have HN := hide (fun h => valA_none (N := N) (T := T) (n := n) (p := p) h)
  generalize hVA0 : valA N T n p = VA at *
  have hVA := hide hVA0
  clear hVA0
  go_enter Try.func70, Try.ntmps70
  go_wp2_with fail
  go_loopw [7, 10] (fun _ y wr => ∃ k : Nat, y = .int .i64 k ∧ k ≤ N ∧ Hid (∀ i, i < k → ¬ SameP (T i) n p) ∧ Below w.heap.size w wr) (fun _ y _ => N - (intOf y).toNat)
  case atStart => exact ⟨0, rfl, Nat.zero_le _, fun i hi => absurd hi (by omega), Below.refl _ _⟩
  case round =>
    obtain ⟨k, rfl, hk, hx, hb⟩ := hrel
    by_cases hlt : k < N
    · obtain ⟨b0, off, a0, c0, rfl, hbw, u0, u1, _, R0⟩ := hR k hlt
      replace u0 := (hb.cell (p := ⟨b0, off + k * 2, none⟩) hbw).trans u0
      replace u1 := (hb.cell (p := ⟨b0, off + k * 2 + 1, none⟩) hbw).trans u1
      have hlt' : (k : Int) < (N : Int) := by omega
      have lk := (hl k hlt).1
      have hS := hide (fun h g => hVA.out.symm.trans (valA_some (T := T) (n := n) (p := p) hlt h g))
      have hN2 : Hid (¬ SameP (T k) n p → ∀ i, i < k + 1 → ¬ SameP (T i) n p) := fun h i hi => by
        by_cases e : i = k
        · subst e; exact h
        · exact hx.out i (by omega)
      have M := Mut.new wr #[.slice a0 (T k).n c0, .string (T k).v] 64
      have d1 : Below w.heap.size w (wr.alloc (.cells #[.slice a0 (T k).n c0, .string (T k).v] 64)) := below_step hb (below_box (Below.refl _ _))
      have S := hide (fun w R Q => i_eqP a0 a1 (T k).n n c0 c1 (T k).p p w lk R Q)
      by_cases hs : SameP (T k) n p
      · have hE := hide (hS.out hs hx.out)
        have hs' : tB (SameP (T k) n p) = true := tB_t hs
        unfold SameP at hs'
        rw [hs'] at S
        clear hVA hS hN2 hx hs hs' hR hl HN
        generalize T k = t at *
        obtain ⟨tn, tp, tv⟩ := t
        dsimp only at *
        go_wp2_with fail
        generalize wr.alloc (.cells #[.slice a0 tn c0, .string tv] 64) = w1 at *
        generalize wr.heap.size = bx at *
        refine (S.out _ (R0.below d1) (Q0.below d1)).mono ?_
        rintro e w2 ⟨rfl, b2⟩
        replace M := M.below b2
        have d2 := d1.trans (b2.mono d1.size)
        have q1 := M.2.1 1 _ rfl
        clear b2 d1 u0 u1 hb
        go_wp2_with fail
        exact bodyPost_ret (v := .tuple #[.string (VA).1, .bool (VA).2]) (by rw [hE.out]; simp [results, Try.results70, go_sem]) rfl ⟨rfl, d2⟩
      · replace hN2 := hide (hN2.out hs)
        have hs' : tB (SameP (T k) n p) = false := tB_f hs
        unfold SameP at hs'
        rw [hs'] at S
        clear hVA hS hx hs hs' hR hl HN
        generalize T k = t at *
        obtain ⟨tn, tp, tv⟩ := t
        dsimp only at *
        go_wp2_with fail
        generalize wr.alloc (.cells #[.slice a0 tn c0, .string tv] 64) = w1 at *
        generalize wr.heap.size = bx at *
        refine (S.out _ (R0.below d1) (Q0.below d1)).mono ?_
        rintro e w2 ⟨rfl, b2⟩
        have d2 := d1.trans (b2.mono d1.size)
        clear b2 d1 u0 u1 hb M
        go_wp2_with fail
        exact ⟨⟨k + 1, by go_num, by omega, hN2.out, d2⟩, by simp [intOf]; omega⟩
    · have hlt' : ¬ (k : Int) < (N : Int) := by omega
      obtain rfl : k = N := by omega
      have hE := hide (HN.out hx.out)
      clear hx hR hl HN
      go_wp2_with fail
      exact bodyPost_ret (v := .tuple #[.string (VA).1, .bool (VA).2]) (by rw [hE.out]; simp [results, Try.results70, go_sem]) rfl ⟨rfl, hb⟩
end Go.Proofs.Ytddbgmknbjdbcaa
