/- What the specification's LongestIn answers. -/
import Derived.Test.YtjmflkheaioboabS2
import Derived.Test.YtjmflkheaioboabS1b
namespace Go.Proofs.Ytjmflkheaioboab
open Go.RowKit

/-- The place of the longest prefix that has x among the first k, -1 for none. -/
def longTo (f0 f1 : Nat → Int) (x : Int) : Nat → Int
  | 0 => -1
  | k + 1 => if hasB (f0 k) (f1 k) x = true ∧ (longTo f0 f1 x k < 0 ∨ f1 (longTo f0 f1 x k).toNat < f1 k) then k else longTo f0 f1 x k

theorem longTo_bd (f0 f1 : Nat → Int) (x : Int) (k : Nat) : -1 ≤ longTo f0 f1 x k ∧ longTo f0 f1 x k < k := by
  induction k with
  | zero => simp [longTo]
  | succ k ih =>
    unfold longTo
    split <;> omega

/-- What is answered for a place. -/
def longV (f0 f1 f2 : Nat → Int) (q : Int) : Value :=
  if q < 0 then .tuple #[.agg #[.int .i64 0, .int .i64 0, .int .i64 0], .bool false] else .tuple #[.agg #[.int .i64 (f0 q.toNat), .int .i64 (f1 q.toNat), .int .i64 (f2 q.toNat)], .bool true]
theorem longV_neg {f0 f1 f2 : Nat → Int} {q : Int} (h : q < 0) : longV f0 f1 f2 q = .tuple #[.agg #[.int .i64 0, .int .i64 0, .int .i64 0], .bool false] := if_pos h
theorem longV_pos {f0 f1 f2 : Nat → Int} {q : Nat} : longV f0 f1 f2 (q : Int) = .tuple #[.agg #[.int .i64 (f0 q), .int .i64 (f1 q), .int .i64 (f2 q)], .bool true] := by
  unfold longV
  rw [if_neg (by omega), Int.toNat_natCast]

set_option maxRecDepth 100000 in
set_option maxHeartbeats 1600000 in
theorem s_longest1 (a0 : Option Addr) (len cap : Nat) (f0 f1 f2 : Nat → Int) (x : Int) (w : World) (hl : len ≤ 1048576) (hx0 : 0 ≤ x) (hx1 : x ≤ 4294967295) (hE : RowEntry a0 len f0 f1 f2 w)
    (hG : ∀ i, i < len → 0 ≤ f1 i ∧ f1 i ≤ 32) :
    Calls Try.prog 47 #[.slice a0 len cap, .int .i64 x] w fun e w' =>
      e = .returned (longV f0 f1 f2 (longTo f0 f1 x len)) ∧ Below w.heap.size w w' := by
  have hE' := hE.below (below_box (Below.refl (w.alloc (.cells #[.int .i64 0, .int .i64 0, .int .i64 0] 32)).heap.size (w.alloc (.cells #[.int .i64 0, .int .i64 0, .int .i64 0] 32))))
  clear hE
  go_enter Try.func47, Try.ntmps47
  go_wp2_with fail
  go_loopw [6, 7, 8, 11] (fun best _ _ i wr => ∃ k : Nat, k ≤ len ∧ i = .int .i64 k ∧ best = .int .i64 (longTo f0 f1 x k) ∧ Below (w.alloc (.cells #[.int .i64 0, .int .i64 0, .int .i64 0] 32)).heap.size (w.alloc (.cells #[.int .i64 0, .int .i64 0, .int .i64 0] 32)) wr) (fun _ _ _ i _ => len - (intOf i).toNat)
  case atStart => exact ⟨0, Nat.zero_le _, rfl, rfl, Below.refl _ _⟩
  case round =>
    obtain ⟨k, hk, rfl, rfl, hb⟩ := hrel
    have hbd := longTo_bd f0 f1 x k
    have hR := hE'.below hb
    by_cases hlt : k < len
    · obtain ⟨b, off, rfl, hbw, h0, h1, h2⟩ := hR k hlt
      have hlt' : (k : Int) < (len : Int) := by omega
      have s1 := hide (fun w => s_hasAddr1 (f0 k) (f1 k) x w (hG k hlt).1 (hG k hlt).2 hx0 hx1)
      have hdef : longTo f0 f1 x (k + 1) = if hasB (f0 k) (f1 k) x = true ∧ (longTo f0 f1 x k < 0 ∨ f1 (longTo f0 f1 x k).toNat < f1 k) then (k : Int) else longTo f0 f1 x k := rfl
      by_cases hh : hasB (f0 k) (f1 k) x = true
      · rw [hh] at s1
        by_cases hneg : longTo f0 f1 x k < 0
        · have hL := hide (show longTo f0 f1 x (k + 1) = (k : Int) by rw [hdef, if_pos ⟨hh, .inl hneg⟩])
          clear hdef hh hG hE' hR
          generalize longTo f0 f1 x k = best at *
          generalize (f0 k) = a at *
          generalize (f1 k) = l at *
          generalize (f2 k) = v at *
          go_wp2_with fail
          have c0 : (wr.alloc (.cells #[.int .i64 a, .int .i64 l, .int .i64 v] 32)).cell? ⟨wr.heap.size, 0, none⟩ = some (.int .i64 a) := by simp [go_sem]
          have c1 : (wr.alloc (.cells #[.int .i64 a, .int .i64 l, .int .i64 v] 32)).cell? ⟨wr.heap.size, 1, none⟩ = some (.int .i64 l) := by simp [go_sem]
          have k0 := cell_regrown c0
          have k1 := cell_regrown c1
          refine wp_region_quiet_below (by kernel_rfl) (by kernel_rfl) ?_
          repeat (first | go_big_quiet_step (((go_at_call 67; exact Calls.regrown_of (s1.out _)))) | quiet_step (((go_at_call 67; exact Calls.regrown_of (s1.out _)))))
          refine wpQuiet_nil ?_
          intro _ hw'
          obtain ⟨⟨dq, osq⟩, hw''⟩ := hw'
          subst hw''
          have hq := below_regrown (wr.alloc (.cells #[.int .i64 a, .int .i64 l, .int .i64 v] 32)) dq osq
          generalize Go.Sort.grow (redrawn (wr.alloc (.cells #[.int .i64 a, .int .i64 l, .int .i64 v] 32)) dq) osq = wq at hq ⊢
          have hbq := hb.trans ((below_box hq).mono hb.size)
          clear hq k0 k1 c0 c1
          go_wp2_with fail
          exact ⟨⟨k + 1, by omega, by go_num, by rw [hL.out], hbq⟩, by simp [intOf]; omega⟩
        · obtain ⟨q, hq⟩ := Int.eq_ofNat_of_zero_le (show 0 ≤ longTo f0 f1 x k by omega)
          obtain ⟨b', off', hbo, _, i0, i1, i2⟩ := hR q (by omega)
          simp only [Option.some.injEq, Addr.mk.injEq, and_true] at hbo
          obtain ⟨rfl, rfl⟩ := hbo
          have j1 := fun o => cell_regrown ((old1 hbw o (off + q * 3 + 1)).trans i1)
          have hqk : (q : Int) < (len : Int) := by omega
          have hqn : ¬ ((q : Int) < 0) := by omega
          rw [hq, Int.toNat_natCast] at hdef
          rw [hq]
          by_cases hc : f1 q < f1 k
          · have hL := hide (show longTo f0 f1 x (k + 1) = (k : Int) by rw [hdef, if_pos ⟨hh, .inr hc⟩])
            have hcd : decide (f1 q < f1 k) = true := by simpa using hc
            clear hdef hh hG hE' hR hneg hq hbd i0 i1 i2
            generalize (f1 q) = l' at *
            generalize (f0 k) = a at *
            generalize (f1 k) = l at *
            generalize (f2 k) = v at *
            go_wp2_with fail
            have c0 : (wr.alloc (.cells #[.int .i64 a, .int .i64 l, .int .i64 v] 32)).cell? ⟨wr.heap.size, 0, none⟩ = some (.int .i64 a) := by simp [go_sem]
            have c1 : (wr.alloc (.cells #[.int .i64 a, .int .i64 l, .int .i64 v] 32)).cell? ⟨wr.heap.size, 1, none⟩ = some (.int .i64 l) := by simp [go_sem]
            have k0 := cell_regrown c0
            have k1 := cell_regrown c1
            refine wp_region_quiet_below (by kernel_rfl) (by kernel_rfl) ?_
            repeat (first | go_big_quiet_step (((go_at_call 67; exact Calls.regrown_of (s1.out _)))) | quiet_step (((go_at_call 67; exact Calls.regrown_of (s1.out _)))))
            refine wpQuiet_nil ?_
            intro _ hw'
            obtain ⟨⟨dq, osq⟩, hw''⟩ := hw'
            subst hw''
            have hq := below_regrown (wr.alloc (.cells #[.int .i64 a, .int .i64 l, .int .i64 v] 32)) dq osq
            generalize Go.Sort.grow (redrawn (wr.alloc (.cells #[.int .i64 a, .int .i64 l, .int .i64 v] 32)) dq) osq = wq at hq ⊢
            have hbq := hb.trans ((below_box hq).mono hb.size)
            clear hq k0 k1 c0 c1
            go_wp2_with fail
            exact ⟨⟨k + 1, by omega, by go_num, by rw [hL.out], hbq⟩, by simp [intOf]; omega⟩
          · have hL := hide (show longTo f0 f1 x (k + 1) = (q : Int) by rw [hdef, if_neg (by rintro ⟨_, h | h⟩ <;> omega)])
            have hcd : decide (f1 q < f1 k) = false := by simpa using hc
            clear hdef hh hG hE' hR hneg hq hbd i0 i1 i2
            generalize (f1 q) = l' at *
            generalize (f0 k) = a at *
            generalize (f1 k) = l at *
            generalize (f2 k) = v at *
            go_wp2_with fail
            have c0 : (wr.alloc (.cells #[.int .i64 a, .int .i64 l, .int .i64 v] 32)).cell? ⟨wr.heap.size, 0, none⟩ = some (.int .i64 a) := by simp [go_sem]
            have c1 : (wr.alloc (.cells #[.int .i64 a, .int .i64 l, .int .i64 v] 32)).cell? ⟨wr.heap.size, 1, none⟩ = some (.int .i64 l) := by simp [go_sem]
            have k0 := cell_regrown c0
            have k1 := cell_regrown c1
            refine wp_region_quiet_below (by kernel_rfl) (by kernel_rfl) ?_
            repeat (first | go_big_quiet_step (((go_at_call 67; exact Calls.regrown_of (s1.out _)))) | quiet_step (((go_at_call 67; exact Calls.regrown_of (s1.out _)))))
            refine wpQuiet_nil ?_
            intro _ hw'
            obtain ⟨⟨dq, osq⟩, hw''⟩ := hw'
            subst hw''
            have hq := below_regrown (wr.alloc (.cells #[.int .i64 a, .int .i64 l, .int .i64 v] 32)) dq osq
            generalize Go.Sort.grow (redrawn (wr.alloc (.cells #[.int .i64 a, .int .i64 l, .int .i64 v] 32)) dq) osq = wq at hq ⊢
            have hbq := hb.trans ((below_box hq).mono hb.size)
            clear hq k0 k1 c0 c1
            go_wp2_with fail
            exact ⟨⟨k + 1, by omega, by go_num, by rw [hL.out], hbq⟩, by simp [intOf]; omega⟩
      · have hh' : hasB (f0 k) (f1 k) x = false := by simpa using hh
        rw [hh'] at s1
        have hL := hide (show longTo f0 f1 x (k + 1) = longTo f0 f1 x k by rw [hdef, if_neg (fun h => hh h.1)])
        clear hdef hh hh' hG hE' hR
        generalize longTo f0 f1 x k = best at *
        generalize (f0 k) = a at *
        generalize (f1 k) = l at *
        generalize (f2 k) = v at *
        go_wp2_with fail
        have c0 : (wr.alloc (.cells #[.int .i64 a, .int .i64 l, .int .i64 v] 32)).cell? ⟨wr.heap.size, 0, none⟩ = some (.int .i64 a) := by simp [go_sem]
        have c1 : (wr.alloc (.cells #[.int .i64 a, .int .i64 l, .int .i64 v] 32)).cell? ⟨wr.heap.size, 1, none⟩ = some (.int .i64 l) := by simp [go_sem]
        have k0 := cell_regrown c0
        have k1 := cell_regrown c1
        refine wp_region_quiet_below (by kernel_rfl) (by kernel_rfl) ?_
        repeat (first | go_big_quiet_step (((go_at_call 67; exact Calls.regrown_of (s1.out _)))) | quiet_step (((go_at_call 67; exact Calls.regrown_of (s1.out _)))))
        refine wpQuiet_nil ?_
        intro _ hw'
        obtain ⟨⟨dq, osq⟩, hw''⟩ := hw'
        subst hw''
        have hq := below_regrown (wr.alloc (.cells #[.int .i64 a, .int .i64 l, .int .i64 v] 32)) dq osq
        generalize Go.Sort.grow (redrawn (wr.alloc (.cells #[.int .i64 a, .int .i64 l, .int .i64 v] 32)) dq) osq = wq at hq ⊢
        have hbq := hb.trans ((below_box hq).mono hb.size)
        clear hq k0 k1 c0 c1
        go_wp2_with fail
        exact ⟨⟨k + 1, by omega, by go_num, by rw [hL.out], hbq⟩, by simp [intOf]; omega⟩
    · have hk' : k = len := by omega
      subst hk'
      obtain ⟨hc, hf⟩ := bcell hb
      have hw := below_box hb
      by_cases hneg : longTo f0 f1 x k < 0
      · have hF := hide (longV_neg (f0 := f0) (f1 := f1) (f2 := f2) hneg)
        clear hG hE' hR
        go_wp2_with fail
        refine bodyPost_ret (v := .tuple #[.agg #[.int .i64 0, .int .i64 0, .int .i64 0], .bool false]) (by simp [results, Try.results47, go_sem, hc]) rfl ⟨by rw [hF.out], ?_⟩
        exact ((hw.setCell (Nat.le_refl _) _).setCell (Nat.le_refl _) _).setCell (Nat.le_refl _) _
      · obtain ⟨q, hq⟩ := Int.eq_ofNat_of_zero_le (show 0 ≤ longTo f0 f1 x k by omega)
        obtain ⟨b, off, rfl, hbw, h0, h1, h2⟩ := hR q (by omega)
        have hF := hide (show longV f0 f1 f2 (longTo f0 f1 x k) = .tuple #[.agg #[.int .i64 (f0 q), .int .i64 (f1 q), .int .i64 (f2 q)], .bool true] by rw [hq]; exact longV_pos)
        have hqk : (q : Int) < (k : Int) := by omega
        have hqn : ¬ ((q : Int) < 0) := by omega
        clear hG hE' hR
        rw [hq]
        clear hq hneg hbd
        go_wp2_with fail
        refine bodyPost_ret (v := .tuple #[.agg #[.int .i64 (f0 q), .int .i64 (f1 q), .int .i64 (f2 q)], .bool true]) (by simp [results, Try.results47, go_sem, hc]) rfl ⟨by rw [hF.out], ?_⟩
        exact ((hw.setCell (Nat.le_refl _) _).setCell (Nat.le_refl _) _).setCell (Nat.le_refl _) _
theorem tabB_len {f0 f1 f2 : Nat → Int} {n : Nat} (h : tabB f0 f1 f2 n = true) : (∀ i, i < n → 0 ≤ f1 i ∧ f1 i ≤ 32) ∧ n ≤ 30 := by
  unfold tabB at h
  rw [Bool.and_eq_true, List.all_eq_true] at h
  refine ⟨fun i hi => ?_, by simpa using h.2⟩
  have h1 := h.1 i (List.mem_range.2 hi)
  unfold entOk at h1
  rw [Bool.and_eq_true, Bool.and_eq_true] at h1
  exact (goodB_iff.1 h1.1.1).1

/-- What LongestIn answers. -/
def longA (f0 f1 f2 : Nat → Int) (n : Nat) (x : Int) : Value :=
  if (tabB f0 f1 f2 n && inB x 0 4294967295) = true then longV f0 f1 f2 (longTo f0 f1 x n) else .tuple #[.agg #[.int .i64 0, .int .i64 0, .int .i64 0], .bool false]

theorem longV_form (f0 f1 f2 : Nat → Int) (q : Int) : ∃ (a l v : Int) (g : Bool), longV f0 f1 f2 q = .tuple #[.agg #[.int .i64 a, .int .i64 l, .int .i64 v], .bool g] := by
  unfold longV
  split
  · exact ⟨_, _, _, _, rfl⟩
  · exact ⟨_, _, _, _, rfl⟩

set_option maxRecDepth 100000 in
set_option maxHeartbeats 800000 in
theorem s_longest (a0 : Option Addr) (len cap : Nat) (f0 f1 f2 : Nat → Int) (x : Int) (w : World) (hl : len ≤ 1048576) (hE : RowEntry a0 len f0 f1 f2 w) :
    Calls Try.prog 16 #[.slice a0 len cap, .int .i64 x] w fun e w' => e = .returned (longA f0 f1 f2 len x) ∧ Below w.heap.size w w' := by
  have hE' := fun o => hE.below (below_box (Below.refl (w.alloc o).heap.size (w.alloc o)))
  have s1 := hide (fun w hE => s_goodTable a0 len cap f0 f1 f2 w hl hE)
  have s2 := hide (fun w => s_addr x w)
  have hdef : longA f0 f1 f2 len x = if (tabB f0 f1 f2 len && inB x 0 4294967295) = true then longV f0 f1 f2 (longTo f0 f1 x len) else .tuple #[.agg #[.int .i64 0, .int .i64 0, .int .i64 0], .bool false] := rfl
  by_cases ht : tabB f0 f1 f2 len = true
  · by_cases hx : 0 ≤ x ∧ x ≤ 4294967295
    · have hx' := inB_t hx.1 hx.2
      have s3 := hide (fun w hE => s_longest1 a0 len cap f0 f1 f2 x w hl hx.1 hx.2 hE (tabB_len ht).1)
      rw [ht, hx', if_pos (show (true && true) = true from rfl)] at hdef
      rw [ht] at s1
      rw [hx'] at s2
      rw [hdef]
      clear hdef ht hx hx' hE
      obtain ⟨a, l, v, g, hv⟩ := longV_form f0 f1 f2 (longTo f0 f1 x len)
      rw [hv] at s3 ⊢
      clear hv
      go_enter Try.func16, Try.ntmps16
      go_wp2_with fail
      refine (s1.out _ (hE' _)).mono ?_
      rintro e w1 ⟨rfl, hb1⟩
      go_wp2_with fail
      refine (s2.out _).mono ?_
      rintro e w2 ⟨rfl, rfl⟩
      go_wp2_with fail
      refine (s3.out _ ((hE' _).below hb1)).mono ?_
      rintro e w3 ⟨rfl, hb3⟩
      have hb := below_step hb1 hb3
      obtain ⟨hc, hf⟩ := bcell hb
      clear hE' hb1 hb3
      go_wp2_with fail
      refine bodyPost_ret (v := .tuple #[.agg #[.int .i64 a, .int .i64 l, .int .i64 v], .bool g]) (by simp [results, Try.results16, go_sem, hc]) rfl ⟨rfl, ?_⟩
      exact (((below_box hb).setCell (Nat.le_refl _) _).setCell (Nat.le_refl _) _).setCell (Nat.le_refl _) _
    · have hx' := inB_n hx
      rw [ht, hx', if_neg (show ¬ (true && false) = true by simp)] at hdef
      rw [ht] at s1
      rw [hx'] at s2
      rw [hdef]
      clear hdef ht hx hx' hE
      go_enter Try.func16, Try.ntmps16
      go_wp2_with fail
      refine (s1.out _ (hE' _)).mono ?_
      rintro e w1 ⟨rfl, hb⟩
      go_wp2_with fail
      refine (s2.out _).mono ?_
      rintro e w2 ⟨rfl, rfl⟩
      obtain ⟨hc, hf⟩ := bcell hb
      clear hE'
      go_wp2_with fail
      refine bodyPost_ret (v := .tuple #[.agg #[.int .i64 0, .int .i64 0, .int .i64 0], .bool false]) (by simp [results, Try.results16, go_sem, hc]) rfl ⟨rfl, ?_⟩
      exact (((below_box hb).setCell (Nat.le_refl _) _).setCell (Nat.le_refl _) _).setCell (Nat.le_refl _) _
  · have ht' : tabB f0 f1 f2 len = false := by simpa using ht
    rw [ht', if_neg (by simp)] at hdef
    rw [ht'] at s1
    rw [hdef]
    clear hdef ht ht' hE
    go_enter Try.func16, Try.ntmps16
    go_wp2_with fail
    refine (s1.out _ (hE' _)).mono ?_
    rintro e w1 ⟨rfl, hb⟩
    obtain ⟨hc, hf⟩ := bcell hb
    clear hE'
    go_wp2_with fail
    refine bodyPost_ret (v := .tuple #[.agg #[.int .i64 0, .int .i64 0, .int .i64 0], .bool false]) (by simp [results, Try.results16, go_sem, hc]) rfl ⟨rfl, ?_⟩
    exact (((below_box hb).setCell (Nat.le_refl _) _).setCell (Nat.le_refl _) _).setCell (Nat.le_refl _) _

end Go.Proofs.Ytjmflkheaioboab
