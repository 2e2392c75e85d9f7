/- CommandText of the specification. -/
import Derived.Test.YtddebnokdcajbaaTxt15b
import Derived.Test.YtddebnokdcajbaaS15a
namespace Go.Proofs.Ytddebnokdcajbaa
open Go.RowKit

set_option maxRecDepth 100000 in
set_option maxHeartbeats 800000 in
theorem s_commandTextS (n : Nat) (p : Nat → ByteArray) (v : ByteArray) (a1 : Option Addr) (c1 : Nat) (w : World) (hn : n ≤ 1048576) (hs : ∀ i, i < n → (p i).size ≤ maxLen) (hv0 : v.size ≤ maxLen) (R : RowStr a1 n p w) :
    Calls Try.prog 5 #[.agg #[.bool true, .slice a1 n c1, .string v]] w fun e w' => e = .returned (.tuple #[.string (cmdA true n p v).1, .bool (cmdA true n p v).2]) ∧ Below w.heap.size w w' := by
  have W := hide (fun w R => s_path a1 n c1 p w hn hs R)
  have V := hide (fun w => s_word v w hv0)
  have hY : Hid (Pw n p → Wd v → cmdA true n p v = (txtI true n p v, true)) := fun h k => if_pos (tB_t ⟨h, Or.inl ⟨rfl, k⟩⟩)
  have hZ : Hid (¬ (Pw n p ∧ Wd v) → cmdA true n p v = (⟨#[]⟩, false)) := fun h => if_neg (by simp only [Bool.not_eq_true]; exact tB_f (fun k => h ⟨k.1, by have := k.2; simpa using this⟩))
  generalize cmdA true n p v = GA at *
  have M0 := Mut.new w #[.bool true, .slice a1 n c1, .string v] 28
  have d0 : Below w.heap.size w (w.alloc (.cells #[.bool true, .slice a1 n c1, .string v] 28)) := below_box (Below.refl _ _)
  have R := hide (R.below d0)
  go_enter Try.func5, Try.ntmps5
  go_wp2_with (fail)
  generalize w.alloc (.cells #[.bool true, .slice a1 n c1, .string v] 28) = w1 at *
  by_cases hp : Pw n p
  case neg =>
    rw [tB_f hp] at W
    have hE := hide (hZ.out (fun h => hp h.1))
    clear hY hZ hs
    have u0 := cell_regrown (M0.2.1 0 _ rfl)
    have u1 := cell_regrown (M0.2.1 1 _ rfl)
    have u2 := cell_regrown (M0.2.1 2 _ rfl)
    go_wp2_with fail
    refine wp_region_quiet_below (by kernel_rfl) (by kernel_rfl) ?_
    repeat (first | go_big_quiet_step ((first | (go_at_call 10; exact Calls.regrown_of (W.out _ (R.out.below (below_regrown _ _ _)))) | (go_at_call 11; exact Calls.regrown_of (V.out _)))) | quiet_step ((first | (go_at_call 10; exact Calls.regrown_of (W.out _ (R.out.below (below_regrown _ _ _)))) | (go_at_call 11; exact Calls.regrown_of (V.out _)))))
    refine wpQuiet_nil ?_
    intro _ hw'
    obtain ⟨⟨dq, osq⟩, hw''⟩ := hw'
    subst hw''
    have hq := below_regrown w1 dq osq
    generalize Go.Sort.grow (redrawn w1 dq) osq = wq at hq ⊢
    have d2 := d0.trans (hq.mono d0.size)
    replace M0 := M0.below hq
    have R2 := hide (R.out.below hq)
    clear hq u0 u1 u2 W V d0 R
    go_wp2_with fail
    exact bodyPost_ret (v := .tuple #[.string GA.1, .bool GA.2]) (by rw [hE.out]; simp [results, Try.results5, go_sem]) rfl ⟨rfl, d2⟩
  rw [tB_t hp] at W
  by_cases hv : Wd v
  case neg =>
    rw [tB_f hv] at V
    have hE := hide (hZ.out (fun h => hv h.2))
    clear hY hZ hs
    have u0 := cell_regrown (M0.2.1 0 _ rfl)
    have u1 := cell_regrown (M0.2.1 1 _ rfl)
    have u2 := cell_regrown (M0.2.1 2 _ rfl)
    go_wp2_with fail
    refine wp_region_quiet_below (by kernel_rfl) (by kernel_rfl) ?_
    repeat (first | go_big_quiet_step ((first | (go_at_call 10; exact Calls.regrown_of (W.out _ (R.out.below (below_regrown _ _ _)))) | (go_at_call 11; exact Calls.regrown_of (V.out _)))) | quiet_step ((first | (go_at_call 10; exact Calls.regrown_of (W.out _ (R.out.below (below_regrown _ _ _)))) | (go_at_call 11; exact Calls.regrown_of (V.out _)))))
    refine wpQuiet_nil ?_
    intro _ hw'
    obtain ⟨⟨dq, osq⟩, hw''⟩ := hw'
    subst hw''
    have hq := below_regrown w1 dq osq
    generalize Go.Sort.grow (redrawn w1 dq) osq = wq at hq ⊢
    have d2 := d0.trans (hq.mono d0.size)
    replace M0 := M0.below hq
    have R2 := hide (R.out.below hq)
    clear hq u0 u1 u2 W V d0 R
    go_wp2_with fail
    exact bodyPost_ret (v := .tuple #[.string GA.1, .bool GA.2]) (by rw [hE.out]; simp [results, Try.results5, go_sem]) rfl ⟨rfl, d2⟩
  rw [tB_t hv] at V
  have hE := hide (hY.out hp hv)
  clear hY hZ hs
  rw [← txt_set v hp] at hE
  have hvs : v.size ≤ 8 := hv.2.1
  have u0 := cell_regrown (M0.2.1 0 _ rfl)
  have u1 := cell_regrown (M0.2.1 1 _ rfl)
  have u2 := cell_regrown (M0.2.1 2 _ rfl)
  go_wp2_with fail
  refine wp_region_quiet_below (by kernel_rfl) (by kernel_rfl) ?_
  repeat (first | go_big_quiet_step ((first | (go_at_call 10; exact Calls.regrown_of (W.out _ (R.out.below (below_regrown _ _ _)))) | (go_at_call 11; exact Calls.regrown_of (V.out _)))) | quiet_step ((first | (go_at_call 10; exact Calls.regrown_of (W.out _ (R.out.below (below_regrown _ _ _)))) | (go_at_call 11; exact Calls.regrown_of (V.out _)))))
  refine wpQuiet_nil ?_
  intro _ hw'
  obtain ⟨⟨dq, osq⟩, hw''⟩ := hw'
  subst hw''
  have hq := below_regrown w1 dq osq
  generalize Go.Sort.grow (redrawn w1 dq) osq = wq at hq ⊢
  have d2 := d0.trans (hq.mono d0.size)
  replace M0 := M0.below hq
  have R2 := hide (R.out.below hq)
  clear hq u0 u1 u2 W V d0 R
  have hsz := hide (fun k hk => spW_size ⟨#[115, 101, 116]⟩ hp k hk)
  have hpk := hide (fun k (hk : k < n) => (hp.2.2 k hk).2.1)
  have hn5 : n ≤ 5 := hp.2.1
  have MM := hide M0
  have u0 := M0.2.1 0 _ rfl
  have u1 := M0.2.1 1 _ rfl
  clear M0
  go_wp2_with fail
  clear u0 u1
  go_loopw [4, 6, 34] (fun x _ y wr => ∃ k : Nat, y = .int .i64 k ∧ k ≤ n ∧ x = .string (spW ⟨#[115, 101, 116]⟩ p k) ∧ Below wq.heap.size wq wr) (fun _ _ y _ => n - (intOf y).toNat)
  case atStart => exact ⟨0, rfl, Nat.zero_le _, rfl, Below.refl _ _⟩
  case round =>
    obtain ⟨k, rfl, hk, rfl, hb⟩ := hrel
    by_cases hlt : k < n
    · obtain ⟨b0, off, rfl, hbw, hcell⟩ := R2.out k hlt
      replace hcell := (hb.cell (p := ⟨b0, off + k, none⟩) hbw).trans hcell
      have hlt' : (k : Int) < (n : Int) := by omega
      have h1 : (spW ⟨#[115, 101, 116]⟩ p k).size ≤ 100 := by
        have h := hsz.out k hk
        have e : (⟨#[115, 101, 116]⟩ : ByteArray).size ≤ 6 := by decide
        omega
      have h2 := hpk.out k hlt
      have e1 : Hid (spW ⟨#[115, 101, 116]⟩ p (k + 1) = spW ⟨#[115, 101, 116]⟩ p k ++ (⟨#[32]⟩ ++ p k)) := rfl
      generalize spW ⟨#[115, 101, 116]⟩ p k = sk at *
      generalize p k = pk at *
      go_wp2_with fail
      exact ⟨⟨k + 1, by go_num, by omega, by rw [e1.out], hb⟩, by simp [intOf]; omega⟩
    · have hlt' : ¬ (k : Int) < (n : Int) := by omega
      obtain rfl : k = n := by omega
      have h1 : (spW ⟨#[115, 101, 116]⟩ p k).size ≤ 100 := by
        have h := hsz.out k hk
        have e : (⟨#[115, 101, 116]⟩ : ByteArray).size ≤ 6 := by decide
        omega
      have M0 := MM.out.below hb
      have u0 := M0.2.1 0 _ rfl
      have u2 := M0.2.1 2 _ rfl
      have d4 := d2.trans (hb.mono d2.size)
      generalize spW ⟨#[115, 101, 116]⟩ p k = sk at *
      go_wp2_with fail
      exact bodyPost_ret (v := .tuple #[.string GA.1, .bool GA.2]) (by rw [hE.out]; simp [results, Try.results5, go_sem]) rfl ⟨rfl, d4⟩
set_option maxRecDepth 100000 in
set_option maxHeartbeats 800000 in
theorem s_commandTextD (n : Nat) (p : Nat → ByteArray) (v : ByteArray) (a1 : Option Addr) (c1 : Nat) (w : World) (hn : n ≤ 1048576) (hs : ∀ i, i < n → (p i).size ≤ maxLen) (hv0 : v.size ≤ maxLen) (R : RowStr a1 n p w) :
    Calls Try.prog 5 #[.agg #[.bool false, .slice a1 n c1, .string v]] w fun e w' => e = .returned (.tuple #[.string (cmdA false n p v).1, .bool (cmdA false n p v).2]) ∧ Below w.heap.size w w' := by
  have W := hide (fun w R => s_path a1 n c1 p w hn hs R)
  have V := hide (fun w => s_word v w hv0)
  have hY : Hid (Pw n p → v.toList = [] → cmdA false n p v = (txtI false n p v, true)) := fun h k => if_pos (tB_t ⟨h, Or.inr ⟨rfl, k⟩⟩)
  have hZ : Hid (¬ (Pw n p ∧ v.toList = []) → cmdA false n p v = (⟨#[]⟩, false)) := fun h => if_neg (by simp only [Bool.not_eq_true]; exact tB_f (fun k => h ⟨k.1, by have := k.2; simpa using this⟩))
  generalize cmdA false n p v = GA at *
  have M0 := Mut.new w #[.bool false, .slice a1 n c1, .string v] 28
  have d0 : Below w.heap.size w (w.alloc (.cells #[.bool false, .slice a1 n c1, .string v] 28)) := below_box (Below.refl _ _)
  have R := hide (R.below d0)
  go_enter Try.func5, Try.ntmps5
  go_wp2_with (fail)
  generalize w.alloc (.cells #[.bool false, .slice a1 n c1, .string v] 28) = w1 at *
  by_cases hp : Pw n p
  case neg =>
    rw [tB_f hp] at W
    have hE := hide (hZ.out (fun h => hp h.1))
    clear hY hZ hs
    have u0 := cell_regrown (M0.2.1 0 _ rfl)
    have u1 := cell_regrown (M0.2.1 1 _ rfl)
    have u2 := cell_regrown (M0.2.1 2 _ rfl)
    go_wp2_with fail
    refine wp_region_quiet_below (by kernel_rfl) (by kernel_rfl) ?_
    repeat (first | go_big_quiet_step ((first | (go_at_call 10; exact Calls.regrown_of (W.out _ (R.out.below (below_regrown _ _ _)))) | (go_at_call 11; exact Calls.regrown_of (V.out _)))) | quiet_step ((first | (go_at_call 10; exact Calls.regrown_of (W.out _ (R.out.below (below_regrown _ _ _)))) | (go_at_call 11; exact Calls.regrown_of (V.out _)))))
    refine wpQuiet_nil ?_
    intro _ hw'
    obtain ⟨⟨dq, osq⟩, hw''⟩ := hw'
    subst hw''
    have hq := below_regrown w1 dq osq
    generalize Go.Sort.grow (redrawn w1 dq) osq = wq at hq ⊢
    have d2 := d0.trans (hq.mono d0.size)
    replace M0 := M0.below hq
    have R2 := hide (R.out.below hq)
    clear hq u0 u1 u2 W V d0 R
    go_wp2_with fail
    exact bodyPost_ret (v := .tuple #[.string GA.1, .bool GA.2]) (by rw [hE.out]; simp [results, Try.results5, go_sem]) rfl ⟨rfl, d2⟩
  rw [tB_t hp] at W
  by_cases hv : Wd v
  case pos =>
    rw [tB_t hv] at V
    have hE := hide (hZ.out (fun h => by have h1 := hv.1; have h2 := h.2; rw [ByteArray.toList_eq] at h2; have h3 : v.size = 0 := (by show v.data.size = 0; rw [← Array.length_toList, h2]; rfl); omega))
    clear hY hZ hs
    have u0 := cell_regrown (M0.2.1 0 _ rfl)
    have u1 := cell_regrown (M0.2.1 1 _ rfl)
    have u2 := cell_regrown (M0.2.1 2 _ rfl)
    go_wp2_with fail
    refine wp_region_quiet_below (by kernel_rfl) (by kernel_rfl) ?_
    repeat (first | go_big_quiet_step ((first | (go_at_call 10; exact Calls.regrown_of (W.out _ (R.out.below (below_regrown _ _ _)))) | (go_at_call 11; exact Calls.regrown_of (V.out _)))) | quiet_step ((first | (go_at_call 10; exact Calls.regrown_of (W.out _ (R.out.below (below_regrown _ _ _)))) | (go_at_call 11; exact Calls.regrown_of (V.out _)))))
    refine wpQuiet_nil ?_
    intro _ hw'
    obtain ⟨⟨dq, osq⟩, hw''⟩ := hw'
    subst hw''
    have hq := below_regrown w1 dq osq
    generalize Go.Sort.grow (redrawn w1 dq) osq = wq at hq ⊢
    have d2 := d0.trans (hq.mono d0.size)
    replace M0 := M0.below hq
    have R2 := hide (R.out.below hq)
    clear hq u0 u1 u2 W V d0 R
    go_wp2_with fail
    exact bodyPost_ret (v := .tuple #[.string GA.1, .bool GA.2]) (by rw [hE.out]; simp [results, Try.results5, go_sem]) rfl ⟨rfl, d2⟩
  rw [tB_f hv] at V
  by_cases kN : v.toList = []
  case neg =>
    have kE : v.toList.isEmpty = false := by simpa using kN
    have hE := hide (hZ.out (fun h => kN h.2))
    clear hY hZ hs
    have u0 := cell_regrown (M0.2.1 0 _ rfl)
    have u1 := cell_regrown (M0.2.1 1 _ rfl)
    have u2 := cell_regrown (M0.2.1 2 _ rfl)
    go_wp2_with fail
    refine wp_region_quiet_below (by kernel_rfl) (by kernel_rfl) ?_
    repeat (first | go_big_quiet_step ((first | (go_at_call 10; exact Calls.regrown_of (W.out _ (R.out.below (below_regrown _ _ _)))) | (go_at_call 11; exact Calls.regrown_of (V.out _)))) | quiet_step ((first | (go_at_call 10; exact Calls.regrown_of (W.out _ (R.out.below (below_regrown _ _ _)))) | (go_at_call 11; exact Calls.regrown_of (V.out _)))))
    refine wpQuiet_nil ?_
    intro _ hw'
    obtain ⟨⟨dq, osq⟩, hw''⟩ := hw'
    subst hw''
    have hq := below_regrown w1 dq osq
    generalize Go.Sort.grow (redrawn w1 dq) osq = wq at hq ⊢
    have d2 := d0.trans (hq.mono d0.size)
    replace M0 := M0.below hq
    have R2 := hide (R.out.below hq)
    clear hq u0 u1 u2 W V d0 R
    go_wp2_with fail
    exact bodyPost_ret (v := .tuple #[.string GA.1, .bool GA.2]) (by rw [hE.out]; simp [results, Try.results5, go_sem]) rfl ⟨rfl, d2⟩
  have kE : v.toList.isEmpty = true := by simpa using kN
  have hE := hide (hY.out hp kN)
  clear hY hZ hs
  rw [← txt_delete v hp] at hE
  have u0 := cell_regrown (M0.2.1 0 _ rfl)
  have u1 := cell_regrown (M0.2.1 1 _ rfl)
  have u2 := cell_regrown (M0.2.1 2 _ rfl)
  go_wp2_with fail
  refine wp_region_quiet_below (by kernel_rfl) (by kernel_rfl) ?_
  repeat (first | go_big_quiet_step ((first | (go_at_call 10; exact Calls.regrown_of (W.out _ (R.out.below (below_regrown _ _ _)))) | (go_at_call 11; exact Calls.regrown_of (V.out _)))) | quiet_step ((first | (go_at_call 10; exact Calls.regrown_of (W.out _ (R.out.below (below_regrown _ _ _)))) | (go_at_call 11; exact Calls.regrown_of (V.out _)))))
  refine wpQuiet_nil ?_
  intro _ hw'
  obtain ⟨⟨dq, osq⟩, hw''⟩ := hw'
  subst hw''
  have hq := below_regrown w1 dq osq
  generalize Go.Sort.grow (redrawn w1 dq) osq = wq at hq ⊢
  have d2 := d0.trans (hq.mono d0.size)
  replace M0 := M0.below hq
  have R2 := hide (R.out.below hq)
  clear hq u0 u1 u2 W V d0 R
  have hsz := hide (fun k hk => spW_size ⟨#[100, 101, 108, 101, 116, 101]⟩ hp k hk)
  have hpk := hide (fun k (hk : k < n) => (hp.2.2 k hk).2.1)
  have hn5 : n ≤ 5 := hp.2.1
  have MM := hide M0
  have u0 := M0.2.1 0 _ rfl
  have u1 := M0.2.1 1 _ rfl
  clear M0
  go_wp2_with fail
  clear u0 u1
  go_loopw [4, 6, 34] (fun x _ y wr => ∃ k : Nat, y = .int .i64 k ∧ k ≤ n ∧ x = .string (spW ⟨#[100, 101, 108, 101, 116, 101]⟩ p k) ∧ Below wq.heap.size wq wr) (fun _ _ y _ => n - (intOf y).toNat)
  case atStart => exact ⟨0, rfl, Nat.zero_le _, rfl, Below.refl _ _⟩
  case round =>
    obtain ⟨k, rfl, hk, rfl, hb⟩ := hrel
    by_cases hlt : k < n
    · obtain ⟨b0, off, rfl, hbw, hcell⟩ := R2.out k hlt
      replace hcell := (hb.cell (p := ⟨b0, off + k, none⟩) hbw).trans hcell
      have hlt' : (k : Int) < (n : Int) := by omega
      have h1 : (spW ⟨#[100, 101, 108, 101, 116, 101]⟩ p k).size ≤ 100 := by
        have h := hsz.out k hk
        have e : (⟨#[100, 101, 108, 101, 116, 101]⟩ : ByteArray).size ≤ 6 := by decide
        omega
      have h2 := hpk.out k hlt
      have e1 : Hid (spW ⟨#[100, 101, 108, 101, 116, 101]⟩ p (k + 1) = spW ⟨#[100, 101, 108, 101, 116, 101]⟩ p k ++ (⟨#[32]⟩ ++ p k)) := rfl
      generalize spW ⟨#[100, 101, 108, 101, 116, 101]⟩ p k = sk at *
      generalize p k = pk at *
      go_wp2_with fail
      exact ⟨⟨k + 1, by go_num, by omega, by rw [e1.out], hb⟩, by simp [intOf]; omega⟩
    · have hlt' : ¬ (k : Int) < (n : Int) := by omega
      obtain rfl : k = n := by omega
      have h1 : (spW ⟨#[100, 101, 108, 101, 116, 101]⟩ p k).size ≤ 100 := by
        have h := hsz.out k hk
        have e : (⟨#[100, 101, 108, 101, 116, 101]⟩ : ByteArray).size ≤ 6 := by decide
        omega
      have M0 := MM.out.below hb
      have u0 := M0.2.1 0 _ rfl
      have u2 := M0.2.1 2 _ rfl
      have d4 := d2.trans (hb.mono d2.size)
      generalize spW ⟨#[100, 101, 108, 101, 116, 101]⟩ p k = sk at *
      go_wp2_with fail
      exact bodyPost_ret (v := .tuple #[.string GA.1, .bool GA.2]) (by rw [hE.out]; simp [results, Try.results5, go_sem]) rfl ⟨rfl, d4⟩
end Go.Proofs.Ytddebnokdcajbaa
