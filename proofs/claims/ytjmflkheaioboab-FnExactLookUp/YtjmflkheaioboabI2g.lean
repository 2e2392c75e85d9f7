/- What the program's LookUp answers. -/
import Derived.Test.YtjmflkheaioboabI2f
namespace Go.Proofs.Ytjmflkheaioboab
open Go.RowKit

set_option maxRecDepth 100000 in
set_option maxHeartbeats 1600000 in
theorem i_lookUp_yes (a0 : Option Addr) (len cap : Nat) (T : Nat → Nd) (x : Int) (w : World) (hl : len ≤ 1048576) (hE : RowT a0 len T w) (ht : trieB len T = true) (hx : inB x 0 4294967295 = true) :
    Calls Try.prog 30 #[.slice a0 len cap, .int .i64 x] w fun e w' => e = .returned (tup3 (lookP T x (endK T x 32 + 1))) ∧ Below w.heap.size w w' := by
  obtain ⟨⟨hn1, hn2⟩, htr, _⟩ := trieB_parts ht
  obtain ⟨hx0, hx1⟩ := inB_iff.1 hx
  have s1 := hide (fun w hE => i_goodTrie a0 len cap T w hl hE)
  have s2 := hide (fun w => i_isAddr x w)
  have s3 := hide (fun w hE => i_wayDown a0 len cap T x w hE hn1 htr hx0 hx1)
  rw [ht] at s1
  rw [hx] at s2
  have htr := hide htr
  have hm32 := endK_le T x 32
  clear ht hx
  go_enter Try.func30, Try.ntmps30
  go_wp2_with fail
  refine (s1.out _ hE).mono ?_
  rintro e w1 ⟨rfl, hb1⟩
  go_wp2_with fail
  refine (s2.out _).mono ?_
  rintro e w2 ⟨rfl, rfl⟩
  go_wp2_with fail
  refine (s3.out _ (hE.below hb1)).mono ?_
  rintro e w3 ⟨g, c, rfl, hb3, hg, hcell⟩
  have hbb := hb1.trans (hb3.mono hb1.size)
  have hcell := hide hcell
  clear s1 s2 s3 hb1 hb3
  generalize hm : endK T x 32 = m at *
  have hmH := hide hm
  clear hm
  go_wp2_with fail
  go_loopw [8, 9] (fun dp _ wr => ∃ j : Nat, j ≤ m + 1 ∧ dp = .int .i64 ((j : Int) - 1) ∧ lookP T x (m + 1) = lookP T x j ∧ Below w3.heap.size w3 wr) (fun dp _ _ => ((intOf dp) + 1).toNat)
  case atStart => exact ⟨m + 1, Nat.le_refl _, by go_num, rfl, Below.refl _ _⟩
  case round =>
    obtain ⟨j, hj, rfl, hlk, hb⟩ := hrel
    have hbw3 := hbb.trans (hb.mono hbb.size)
    cases j with
    | zero =>
      have hR := hide (show tup3 (lookP T x (m + 1)) = .tuple #[.int .i64 0, .int .i64 0, .bool false] by rw [hlk]; rfl)
      have hneg : ((0 : Nat) : Int) - 1 < 0 := by omega
      clear hlk hE
      go_wp2_with fail
      refine bodyPost_ret (v := .tuple #[.int .i64 0, .int .i64 0, .bool false]) (by simp [results, Try.results30, go_sem]) rfl ⟨by rw [hmH.out, hR.out], hbw3⟩
    | succ q =>
      have hqe : ((q + 1 : Nat) : Int) - 1 = (q : Int) := by omega
      rw [hqe]
      have hcq : wr.cell? ⟨g, q, none⟩ = some (.int .i64 (wayAt T x q)) := ((bcell hb).1 _ _ hg).trans (hcell.out q (by omega))
      have hwl := wayAt_lt htr.out hn1 x q
      obtain ⟨b, off, rfl, hbw, h0, h1, h2, h3⟩ := (hE.below hbw3) (wayAt T x q) hwl
      have hwl' : (wayAt T x q : Int) < (len : Int) := by omega
      have hqm : (q : Int) < (m : Int) + 1 := by omega
      cases hh : (T (wayAt T x q)).h with
      | true =>
        have hR := hide (show tup3 (lookP T x (m + 1)) = .tuple #[.int .i64 (T (wayAt T x q)).v, .int .i64 q, .bool true] by rw [hlk, lookP_y hh]; rfl)
        rw [hh] at h2
        clear hlk hE hh
        generalize wayAt T x q = at0 at *
        generalize (T at0).z = z at *
        generalize (T at0).o = oo at *
        generalize (T at0).v = vv at *
        go_wp2_with fail
        refine bodyPost_ret (v := .tuple #[.int .i64 vv, .int .i64 q, .bool true]) (by simp [results, Try.results30, go_sem]) rfl ⟨by rw [hmH.out, hR.out], hbw3.trans ((below_box (Below.refl _ _)).mono hbw3.size)⟩
      | false =>
        have hL := hide (hlk.trans (lookP_n hh))
        rw [hh] at h2
        clear hlk hE hh
        generalize wayAt T x q = at0 at *
        generalize (T at0).z = z at *
        generalize (T at0).o = oo at *
        generalize (T at0).v = vv at *
        go_wp2_with fail
        exact ⟨⟨q, by omega, by go_num, hL.out, hb.trans ((below_box (Below.refl _ _)).mono hb.size)⟩, by simp [intOf]⟩

set_option maxRecDepth 100000 in
set_option maxHeartbeats 800000 in
theorem i_lookUp (a0 : Option Addr) (len cap : Nat) (T : Nat → Nd) (x : Int) (w : World) (hl : len ≤ 1048576) (hE : RowT a0 len T w) :
    Calls Try.prog 30 #[.slice a0 len cap, .int .i64 x] w fun e w' => e = .returned (tup3 (lookA T len x)) ∧ Below w.heap.size w w' := by
  cases ht : trieB len T with
  | true =>
    cases hx : inB x 0 4294967295 with
    | true => rw [lookA_y ht hx]; exact i_lookUp_yes a0 len cap T x w hl hE ht hx
    | false =>
      rw [lookA_x hx]
      have s1 := hide (fun w hE => i_goodTrie a0 len cap T w hl hE)
      have s2 := hide (fun w => i_isAddr x w)
      rw [ht] at s1
      rw [hx] at s2
      clear ht hx
      go_enter Try.func30, Try.ntmps30
      go_wp2_with fail
      refine (s1.out _ hE).mono ?_
      rintro e w1 ⟨rfl, hb1⟩
      go_wp2_with fail
      refine (s2.out _).mono ?_
      rintro e w2 ⟨rfl, rfl⟩
      go_wp2_with fail
      refine bodyPost_ret (v := .tuple #[.int .i64 0, .int .i64 0, .bool false]) (by simp [results, Try.results30, go_sem]) rfl ⟨rfl, hb1⟩
  | false =>
    rw [lookA_t ht]
    have s1 := hide (fun w hE => i_goodTrie a0 len cap T w hl hE)
    rw [ht] at s1
    clear ht
    go_enter Try.func30, Try.ntmps30
    go_wp2_with fail
    refine (s1.out _ hE).mono ?_
    rintro e w1 ⟨rfl, hb1⟩
    go_wp2_with fail
    refine bodyPost_ret (v := .tuple #[.int .i64 0, .int .i64 0, .bool false]) (by simp [results, Try.results30, go_sem]) rfl ⟨rfl, hb1⟩
end Go.Proofs.Ytjmflkheaioboab
