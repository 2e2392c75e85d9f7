/- What is got of a configuration, of the specification. -/
import Derived.Test.YthkooojjhagkeaaS15c
import Derived.Test.YthkooojjhagkeaaPlain15b
namespace Go.Proofs.Ythkooojjhagkeaa
open Go.RowKit

set_option maxRecDepth 100000 in
set_option maxHeartbeats 800000 in
theorem s_same15 (a a' : Option Addr) (n m c c' : Nat) (p q : Nat → ByteArray) (w : World) (hn : n ≤ 1048576) (hR : RowStr a n p w) (hQ : RowStr a' m q w) :
    Calls Try.prog 41 #[.slice a n c, .slice a' m c'] w fun e w' => e = .returned (.bool (tB (n = m ∧ Bg n p m q))) ∧ Below w.heap.size w w' := by
  have B := hide (fun w R Q => s_begins a a' n m c c' p q w hn R Q)
  have hT : Hid (Bg n p m q → n = m → tB (n = m ∧ Bg n p m q) = true) := fun h g => tB_t ⟨g, h⟩
  have hF : Hid (¬ (n = m ∧ Bg n p m q) → tB (n = m ∧ Bg n p m q) = false) := tB_f
  generalize tB (n = m ∧ Bg n p m q) = b at *
  go_enter Try.func41, Try.ntmps41
  go_wp2_with fail
  refine (B.out _ hR hQ).mono ?_
  rintro e w1 ⟨rfl, b1⟩
  clear B
  by_cases hB : Bg n p m q
  · rw [tB_t hB]
    by_cases hnm : n = m
    · have hE := hide (hT.out hB hnm)
      have k0 : ((n : Int) == (m : Int)) = true := by simp [hnm]
      clear hT hF hB hnm
      go_wp2_with fail
      go_ret
      exact ⟨by rw [hE.out]; rfl, b1⟩
    · have hE := hide (hF.out (fun h => hnm h.1))
      have k0 : ((n : Int) == (m : Int)) = false := by simp; omega
      clear hT hF hB hnm
      go_wp2_with fail
      go_ret
      exact ⟨by rw [hE.out]; rfl, b1⟩
  · rw [tB_f hB]
    have hE := hide (hF.out (fun h => hB h.2))
    clear hT hF hB
    go_wp2_with fail
    go_ret
    exact ⟨by rw [hE.out]; rfl, b1⟩
set_option maxRecDepth 100000 in
set_option maxHeartbeats 3200000 in
theorem s_getAt (a : Option Addr) (N c : Nat) (T : Nat → Lf) (a1 : Option Addr) (n c1 : Nat) (p : Nat → ByteArray) (w : World) (hN : N ≤ 1048576) (hl : LowF N T) (hn : n ≤ 1048576) (hp0 : ∀ i, i < n → (p i).size ≤ maxLen) (hR : RowF true a N T w) (Q0 : RowStr a1 n p w) :
    Calls Try.prog 14 #[.slice a N c, .slice a1 n c1] w fun e w' => e = .returned (.tuple #[.string (getA N T n p).1, .bool (getA N T n p).2]) ∧ Below w.heap.size w w' := by
  have hY : Hid (GC N T → Pw n p → getA N T n p = valA N T n p) := fun h g => if_pos (tB_t ⟨h, g⟩)
  have hZ : Hid (¬ (GC N T ∧ Pw n p) → getA N T n p = (⟨#[]⟩, false)) := fun h => if_neg (by simp [tB_f h])
  have G := hide (fun w R => s_goodConfig a N c T w hN hl R)
  have W := hide (fun w R => s_path a1 n c1 p w hn hp0 R)
  have HN := hide (fun h => valA_none (N := N) (T := T) (n := n) (p := p) h)
  generalize getA N T n p = GA at *
  clear hp0
  go_enter Try.func14, Try.ntmps14
  go_wp2_with fail
  refine (G.out _ hR).mono ?_
  rintro e w1 ⟨rfl, b1⟩
  by_cases hg : GC N T
  case neg =>
    rw [tB_f hg]
    have hE := hide (hZ.out (fun h => hg h.1))
    clear hY hZ
    go_wp2_with fail
    exact bodyPost_ret (v := .tuple #[.string (GA).1, .bool (GA).2]) (by rw [hE.out]; simp [results, Try.results14, go_sem]) rfl ⟨rfl, b1⟩
  rw [tB_t hg]
  go_wp2_with fail
  refine (W.out _ (Q0.below b1)).mono ?_
  rintro e w2 ⟨rfl, b2⟩
  have d2 := below_step b1 b2
  by_cases hp : Pw n p
  case neg =>
    rw [tB_f hp]
    have hE := hide (hZ.out (fun h => hp h.2))
    clear hY hZ
    go_wp2_with fail
    exact bodyPost_ret (v := .tuple #[.string (GA).1, .bool (GA).2]) (by rw [hE.out]; simp [results, Try.results14, go_sem]) rfl ⟨rfl, d2⟩
  rw [tB_t hp]
  have hY := hide (hY.out hg hp)
  have HN := hide (fun h => hY.out.trans (HN.out h))
  clear hZ hg hp b1 b2 G W
  go_wp2_with fail
  go_loopw [7, 18] (fun _ y wr => ∃ k : Nat, y = .int .i64 k ∧ k ≤ N ∧ Hid (∀ i, i < k → ¬ SameP (T i) n p) ∧ Below w.heap.size w wr) (fun _ y _ => N - (intOf y).toNat)
  case atStart => exact ⟨0, rfl, Nat.zero_le _, fun i hi => absurd hi (by omega), d2⟩
  case round =>
    obtain ⟨k, rfl, hk, hx, hb⟩ := hrel
    by_cases hlt : k < N
    · obtain ⟨b0, off, a0, c0, rfl, hbw, u0, u1, _, R0⟩ := hR k hlt
      replace u0 := (hb.cell (p := ⟨b0, off + k * 2, none⟩) hbw).trans u0
      replace u1 := (hb.cell (p := ⟨b0, off + k * 2 + 1, none⟩) hbw).trans u1
      have hlt' : (k : Int) < (N : Int) := by omega
      have lk := (hl k hlt).1
      have hS := hide (fun h g => hY.out.trans (valA_some (T := T) (n := n) (p := p) hlt h g))
      have hN2 : Hid (¬ SameP (T k) n p → ∀ i, i < k + 1 → ¬ SameP (T i) n p) := fun h i hi => by
        by_cases e : i = k
        · subst e; exact h
        · exact hx.out i (by omega)
      have M := Mut.new wr #[.slice a0 (T k).n c0, .string (T k).v] 48
      have d1 : Below w.heap.size w (wr.alloc (.cells #[.slice a0 (T k).n c0, .string (T k).v] 48)) := below_step hb (below_box (Below.refl _ _))
      have S := hide (fun w R Q => s_same15 a0 a1 (T k).n n c0 c1 (T k).p p w lk R Q)
      by_cases hs : SameP (T k) n p
      · have hE := hide (hS.out hs hx.out)
        have hs' : tB (SameP (T k) n p) = true := tB_t hs
        unfold SameP at hs'
        rw [hs'] at S
        clear hY hS hN2 hx hs hs' hR hl HN
        generalize T k = t at *
        obtain ⟨tn, tp, tv⟩ := t
        dsimp only at *
        go_wp2_with fail
        generalize wr.alloc (.cells #[.slice a0 tn c0, .string tv] 48) = w1 at *
        generalize wr.heap.size = bx at *
        refine (S.out _ (R0.below d1) (Q0.below d1)).mono ?_
        rintro e w2 ⟨rfl, b2⟩
        replace M := M.below b2
        have d2 := d1.trans (b2.mono d1.size)
        have q1 := M.2.1 1 _ rfl
        clear b2 d1 u0 u1 hb
        go_wp2_with fail
        exact bodyPost_ret (v := .tuple #[.string (GA).1, .bool (GA).2]) (by rw [hE.out]; simp [results, Try.results14, go_sem]) rfl ⟨rfl, d2⟩
      · replace hN2 := hide (hN2.out hs)
        have hs' : tB (SameP (T k) n p) = false := tB_f hs
        unfold SameP at hs'
        rw [hs'] at S
        clear hY hS hx hs hs' hR hl HN
        generalize T k = t at *
        obtain ⟨tn, tp, tv⟩ := t
        dsimp only at *
        go_wp2_with fail
        generalize wr.alloc (.cells #[.slice a0 tn c0, .string tv] 48) = w1 at *
        generalize wr.heap.size = bx at *
        refine (S.out _ (R0.below d1) (Q0.below d1)).mono ?_
        rintro e w2 ⟨rfl, b2⟩
        have d2 := d1.trans (b2.mono d1.size)
        clear b2 d1 u0 u1 hb M
        go_wp2_with fail
        exact ⟨⟨k + 1, by go_num, by omega, hN2.out, d2⟩, by simp [intOf]; omega⟩
    · have hlt' : ¬ (k : Int) < (N : Int) := by omega
      obtain rfl : k = N := by omega
      have hE := hide (HN.out hx.out)
      clear hY hx hR hl HN
      go_wp2_with fail
      exact bodyPost_ret (v := .tuple #[.string (GA).1, .bool (GA).2]) (by rw [hE.out]; simp [results, Try.results14, go_sem]) rfl ⟨rfl, hb⟩
end Go.Proofs.Ythkooojjhagkeaa
