/- ActOn of the specification. -/
import Derived.Test.YtflakkbodbnndaaAll8
import Derived.Test.YtflakkbodbnndaaS7a
import Derived.Test.YtflakkbodbnndaaS7w1
import Derived.Test.YtflakkbodbnndaaS7w2
import Derived.Test.YtflakkbodbnndaaS7w3
import Derived.Test.YtflakkbodbnndaaS7w4
import Derived.Test.YtflakkbodbnndaaS7w5
namespace Go.Proofs.Ytflakkbodbnndaa
open Go.RowKit

/-- What ActOn answers. -/
def AoP (k n : Int) (t : Ro) (w : World) (e : Ending) (w' : World) : Prop := Below w.heap.size w w' ∧ ((aoB k n t = true ∧ ∃ b0 d0 b1 d1, e = .returned (.tuple #[.agg #[.int .i64 (doR k n t).pa, .int .i64 (doR k n t).pl, .int .i64 (doR k n t).o, .slice b0 (doR k n t).n0 d0, .int .i64 (doR k n t).nx, .int .i64 (doR k n t).md, .int .i64 (doR k n t).pf, .slice b1 (doR k n t).n1 d1], .bool true]) ∧ SrcN .i64 b0 (doR k n t).K d0 w' ∧ SrcN .i64 b1 (doR k n t).L d1 w' ∧ NewB w.heap.size b0 ∧ NewB w.heap.size b1) ∨ (aoB k n t = false ∧ e = .returned (.tuple #[.agg #[.int .i64 0, .int .i64 0, .int .i64 0, .slice none 0 0, .int .i64 0, .int .i64 0, .int .i64 0, .slice none 0 0], .bool false])))

theorem s_do (k n : Int) (t : Ro) (a0 : Option Addr) (c0 : Nat) (a1 : Option Addr) (c1 : Nat) (w : World) (h0 : t.n0 ≤ 1048576) (h1 : t.n1 ≤ 1048576) (S0 : SrcN .i64 a0 t.K c0 w) (S1 : SrcN .i64 a1 t.L c1 w) (hk : 1 ≤ k ∧ k ≤ 5) :
    Calls Try.prog 23 #[.agg #[.int .i64 k, .int .i64 n], .agg #[.int .i64 t.pa, .int .i64 t.pl, .int .i64 t.o, .slice a0 t.n0 c0, .int .i64 t.nx, .int .i64 t.md, .int .i64 t.pf, .slice a1 t.n1 c1]] w fun e w' => ∃ b0 d0 b1 d1, e = .returned (.agg #[.int .i64 (doR k n t).pa, .int .i64 (doR k n t).pl, .int .i64 (doR k n t).o, .slice b0 (doR k n t).n0 d0, .int .i64 (doR k n t).nx, .int .i64 (doR k n t).md, .int .i64 (doR k n t).pf, .slice b1 (doR k n t).n1 d1]) ∧ SrcN .i64 b0 (doR k n t).K d0 w' ∧ SrcN .i64 b1 (doR k n t).L d1 w' ∧ Below w.heap.size w w' ∧ NewB w.heap.size b0 ∧ NewB w.heap.size b1 := by
  rcases (show k = 1 ∨ k = 2 ∨ k = 3 ∨ k = 4 ∨ k = 5 by omega) with rfl | rfl | rfl | rfl | rfl
  · exact s_do1 n t a0 c0 a1 c1 w h0 h1 S0 S1
  · exact s_do2 n t a0 c0 a1 c1 w h0 h1 S0 S1
  · exact s_do3 n t a0 c0 a1 c1 w h0 h1 S0 S1
  · exact s_do4 n t a0 c0 a1 c1 w h0 h1 S0 S1
  · exact s_do5 n t a0 c0 a1 c1 w h0 h1 S0 S1
set_option maxRecDepth 100000 in
set_option maxHeartbeats 3200000 in
theorem s_actOn (k n : Int) (t : Ro) (a0 : Option Addr) (c0 : Nat) (a1 : Option Addr) (c1 : Nat) (w : World) (h0 : t.n0 ≤ 1048576) (h1 : t.n1 ≤ 1048576) (S0 : SrcN .i64 a0 t.K c0 w) (S1 : SrcN .i64 a1 t.L c1 w) :
    Calls Try.prog 6 #[.agg #[.int .i64 k, .int .i64 n], .agg #[.int .i64 t.pa, .int .i64 t.pl, .int .i64 t.o, .slice a0 t.n0 c0, .int .i64 t.nx, .int .i64 t.md, .int .i64 t.pf, .slice a1 t.n1 c1]] w (AoP k n t w) := by
  have AK := hide (fun w => s_act k n w)
  have GR := hide (fun w (S0 : SrcN .i64 a0 t.K c0 w) (S1 : SrcN .i64 a1 t.L c1 w) => s_goodRoute t.pa t.pl t.o t.nx t.md t.pf a0 t.n0 c0 t.f a1 t.n1 c1 t.g w h0 h1 (rowN_int S0.1) (rowN_int S1.1))
  rw [show routeB t.pa t.pl t.o t.nx t.md t.pf t.n0 t.f t.n1 t.g = rtOk t from rfl] at GR
  have d1 : Below w.heap.size w (((w.alloc (.cells #[.int .i64 k, .int .i64 n] 38)).alloc (.cells #[.int .i64 t.pa, .int .i64 t.pl, .int .i64 t.o, .slice a0 t.n0 c0, .int .i64 t.nx, .int .i64 t.md, .int .i64 t.pf, .slice a1 t.n1 c1] 35)).alloc (.cells #[.int .i64 0, .int .i64 0, .int .i64 0, .slice none 0 0, .int .i64 0, .int .i64 0, .int .i64 0, .slice none 0 0] 35)) := below_box3 (Below.refl _ _)
  have M1 := ((Mut.new w #[.int .i64 k, .int .i64 n] 38).alloc (.cells #[.int .i64 t.pa, .int .i64 t.pl, .int .i64 t.o, .slice a0 t.n0 c0, .int .i64 t.nx, .int .i64 t.md, .int .i64 t.pf, .slice a1 t.n1 c1] 35)).alloc (.cells #[.int .i64 0, .int .i64 0, .int .i64 0, .slice none 0 0, .int .i64 0, .int .i64 0, .int .i64 0, .slice none 0 0] 35)
  have M2 := (Mut.new (w.alloc (.cells #[.int .i64 k, .int .i64 n] 38)) #[.int .i64 t.pa, .int .i64 t.pl, .int .i64 t.o, .slice a0 t.n0 c0, .int .i64 t.nx, .int .i64 t.md, .int .i64 t.pf, .slice a1 t.n1 c1] 35).alloc (.cells #[.int .i64 0, .int .i64 0, .int .i64 0, .slice none 0 0, .int .i64 0, .int .i64 0, .int .i64 0, .slice none 0 0] 35)
  have M3 := Mut.new ((w.alloc (.cells #[.int .i64 k, .int .i64 n] 38)).alloc (.cells #[.int .i64 t.pa, .int .i64 t.pl, .int .i64 t.o, .slice a0 t.n0 c0, .int .i64 t.nx, .int .i64 t.md, .int .i64 t.pf, .slice a1 t.n1 c1] 35)) #[.int .i64 0, .int .i64 0, .int .i64 0, .slice none 0 0, .int .i64 0, .int .i64 0, .int .i64 0, .slice none 0 0] 35
  simp only [World.size_alloc] at M2 M3
  have hao : aoB k n t = (acOk k n && (rtOk t && rtOk (doR k n t))) := rfl
  cases hac : acOk k n with
  | false =>
    have hN : aoB k n t = false := by rw [hao, hac]; rfl
    rw [hac] at AK
    clear hao hac GR M1 M2
    go_enter Try.func6, Try.ntmps6
    go_wp2_with fail
    generalize (((w.alloc (.cells #[.int .i64 k, .int .i64 n] 38)).alloc (.cells #[.int .i64 t.pa, .int .i64 t.pl, .int .i64 t.o, .slice a0 t.n0 c0, .int .i64 t.nx, .int .i64 t.md, .int .i64 t.pf, .slice a1 t.n1 c1] 35)).alloc (.cells #[.int .i64 0, .int .i64 0, .int .i64 0, .slice none 0 0, .int .i64 0, .int .i64 0, .int .i64 0, .slice none 0 0] 35)) = w1 at *
    refine (AK.out _).mono ?_
    rintro e w2 ⟨rfl, b2⟩
    have d2 := d1.trans (b2.mono d1.size)
    have M3 := M3.below b2
    clear b2 
    go_wp2_with (refine wpList_storeM (us := [.int .i64 0, .int .i64 0, .int .i64 0, .slice none 0 0, .int .i64 0, .int .i64 0, .int .i64 0, .slice none 0 0]) rfl rfl rfl rfl M3 rfl (by intro v hv; simp only [List.mem_cons, List.not_mem_nil, or_false] at hv; rcases hv with rfl | rfl | rfl | rfl | rfl | rfl | rfl | rfl <;> rfl) sizeRt7 ?_; intro w7 M7 o7)
    have r0 := M7.2.1 0 _ rfl
    have r1 := M7.2.1 1 _ rfl
    have r2 := M7.2.1 2 _ rfl
    have r3 := M7.2.1 3 _ rfl
    have r4 := M7.2.1 4 _ rfl
    have r5 := M7.2.1 5 _ rfl
    have r6 := M7.2.1 6 _ rfl
    have r7 := M7.2.1 7 _ rfl
    have D7 := d2.trans (o7.below_of (by omega) d2.size)
    refine bodyPost_ret (v := .tuple #[.agg #[.int .i64 0, .int .i64 0, .int .i64 0, .slice none 0 0, .int .i64 0, .int .i64 0, .int .i64 0, .slice none 0 0], .bool false]) (by simp [results, Try.results6, go_sem, r0, r1, r2, r3, r4, r5, r6, r7]) rfl ⟨D7, .inr ⟨hN, rfl⟩⟩
  | true =>
    rw [hac] at AK
    have hk := ac_kind hac
    cases hrt : rtOk t with
    | false =>
      have hN : aoB k n t = false := by rw [hao, hac, hrt]; rfl
      rw [hrt] at GR
      clear hao hac hrt hk M1
      go_enter Try.func6, Try.ntmps6
      go_wp2_with fail
      generalize (((w.alloc (.cells #[.int .i64 k, .int .i64 n] 38)).alloc (.cells #[.int .i64 t.pa, .int .i64 t.pl, .int .i64 t.o, .slice a0 t.n0 c0, .int .i64 t.nx, .int .i64 t.md, .int .i64 t.pf, .slice a1 t.n1 c1] 35)).alloc (.cells #[.int .i64 0, .int .i64 0, .int .i64 0, .slice none 0 0, .int .i64 0, .int .i64 0, .int .i64 0, .slice none 0 0] 35)) = w1 at *
      refine (AK.out _).mono ?_
      rintro e w2 ⟨rfl, b2⟩
      have d2 := d1.trans (b2.mono d1.size)
      have M2 := M2.below b2
      have M3 := M3.below b2
      clear b2 
      have u0 := M2.2.1 0 _ rfl
      have u1 := M2.2.1 1 _ rfl
      have u2 := M2.2.1 2 _ rfl
      have u3 := M2.2.1 3 _ rfl
      have u4 := M2.2.1 4 _ rfl
      have u5 := M2.2.1 5 _ rfl
      have u6 := M2.2.1 6 _ rfl
      have u7 := M2.2.1 7 _ rfl
      go_wp2_with fail
      refine (GR.out _ (S0.below d2) (S1.below d2)).mono ?_
      rintro e w3 ⟨rfl, b3⟩
      have d3 := d2.trans (b3.mono d2.size)
      have M3 := M3.below b3
      clear b3 M2 u0 u1 u2 u3 u4 u5 u6 u7
      go_wp2_with (refine wpList_storeM (us := [.int .i64 0, .int .i64 0, .int .i64 0, .slice none 0 0, .int .i64 0, .int .i64 0, .int .i64 0, .slice none 0 0]) rfl rfl rfl rfl M3 rfl (by intro v hv; simp only [List.mem_cons, List.not_mem_nil, or_false] at hv; rcases hv with rfl | rfl | rfl | rfl | rfl | rfl | rfl | rfl <;> rfl) sizeRt7 ?_; intro w7 M7 o7)
      have r0 := M7.2.1 0 _ rfl
      have r1 := M7.2.1 1 _ rfl
      have r2 := M7.2.1 2 _ rfl
      have r3 := M7.2.1 3 _ rfl
      have r4 := M7.2.1 4 _ rfl
      have r5 := M7.2.1 5 _ rfl
      have r6 := M7.2.1 6 _ rfl
      have r7 := M7.2.1 7 _ rfl
      have D7 := d3.trans (o7.below_of (by omega) d3.size)
      refine bodyPost_ret (v := .tuple #[.agg #[.int .i64 0, .int .i64 0, .int .i64 0, .slice none 0 0, .int .i64 0, .int .i64 0, .int .i64 0, .slice none 0 0], .bool false]) (by simp [results, Try.results6, go_sem, r0, r1, r2, r3, r4, r5, r6, r7]) rfl ⟨D7, .inr ⟨hN, rfl⟩⟩
    | true =>
      rw [hrt] at GR
      obtain ⟨hs0, hs1⟩ := rt_small hrt
      have DO := hide (fun w S0 S1 => s_do k n t a0 c0 a1 c1 w h0 h1 S0 S1 hk)
      obtain ⟨hr0, hr1⟩ := do_small (k := k) (n := n) hs0 hs1
      have GQ := hide (fun b0 d0 b1 d1 w (S0 : SrcN .i64 b0 (doR k n t).K d0 w) (S1 : SrcN .i64 b1 (doR k n t).L d1 w) => s_goodRoute (doR k n t).pa (doR k n t).pl (doR k n t).o (doR k n t).nx (doR k n t).md (doR k n t).pf b0 (doR k n t).n0 d0 (doR k n t).f b1 (doR k n t).n1 d1 (doR k n t).g w hr0 hr1 (rowN_int S0.1) (rowN_int S1.1))
      rw [show routeB (doR k n t).pa (doR k n t).pl (doR k n t).o (doR k n t).nx (doR k n t).md (doR k n t).pf (doR k n t).n0 (doR k n t).f (doR k n t).n1 (doR k n t).g = rtOk (doR k n t) from rfl] at GQ
      rw [hac, hrt] at hao
      simp only [Bool.true_and] at hao
      have hA := hide hao
      clear hao hac hrt hk hs0 hs1 hr0 hr1
      have hAP : AoP k n t w = AoP k n t w := rfl
      clear hAP
      have hYes : Hid (rtOk (doR k n t) = true → ∀ w7 b0 d0 b1 d1, Below w.heap.size w w7 → SrcN .i64 b0 (doR k n t).K d0 w7 → SrcN .i64 b1 (doR k n t).L d1 w7 → NewB w.heap.size b0 → NewB w.heap.size b1 → AoP k n t w (.returned (.tuple #[.agg #[.int .i64 (doR k n t).pa, .int .i64 (doR k n t).pl, .int .i64 (doR k n t).o, .slice b0 (doR k n t).n0 d0, .int .i64 (doR k n t).nx, .int .i64 (doR k n t).md, .int .i64 (doR k n t).pf, .slice b1 (doR k n t).n1 d1], .bool true])) w7) := fun h w7 b0 d0 b1 d1 D s0 s1 n0 n1 => ⟨D, .inl ⟨hA.out.trans h, b0, d0, b1, d1, rfl, s0, s1, n0, n1⟩⟩
      have hNo : Hid (rtOk (doR k n t) = false → ∀ w7, Below w.heap.size w w7 → AoP k n t w (.returned (.tuple #[.agg #[.int .i64 0, .int .i64 0, .int .i64 0, .slice none 0 0, .int .i64 0, .int .i64 0, .int .i64 0, .slice none 0 0], .bool false])) w7) := fun h w7 D => ⟨D, .inr ⟨hA.out.trans h, rfl⟩⟩
      clear hA
      generalize hAQ : AoP k n t w = AQ at *
      clear hAQ
      generalize doR k n t = r at *
      cases hq : rtOk r with
      | false =>
        rw [hq] at GQ
        have hF := hide (hNo.out hq)
        clear hYes hNo hq
        go_enter Try.func6, Try.ntmps6
        go_wp2_with fail
        generalize (((w.alloc (.cells #[.int .i64 k, .int .i64 n] 38)).alloc (.cells #[.int .i64 t.pa, .int .i64 t.pl, .int .i64 t.o, .slice a0 t.n0 c0, .int .i64 t.nx, .int .i64 t.md, .int .i64 t.pf, .slice a1 t.n1 c1] 35)).alloc (.cells #[.int .i64 0, .int .i64 0, .int .i64 0, .slice none 0 0, .int .i64 0, .int .i64 0, .int .i64 0, .slice none 0 0] 35)) = w1 at *
        refine (AK.out _).mono ?_
        rintro e w2 ⟨rfl, b2⟩
        have d2 := d1.trans (b2.mono d1.size)
        have M1 := M1.below b2
        have M2 := M2.below b2
        have M3 := M3.below b2
        clear b2 
        have u0 := M2.2.1 0 _ rfl
        have u1 := M2.2.1 1 _ rfl
        have u2 := M2.2.1 2 _ rfl
        have u3 := M2.2.1 3 _ rfl
        have u4 := M2.2.1 4 _ rfl
        have u5 := M2.2.1 5 _ rfl
        have u6 := M2.2.1 6 _ rfl
        have u7 := M2.2.1 7 _ rfl
        go_wp2_with fail
        refine (GR.out _ (S0.below d2) (S1.below d2)).mono ?_
        rintro e w3 ⟨rfl, b3⟩
        have d3 := d2.trans (b3.mono d2.size)
        have M1 := M1.below b3
        have M2 := M2.below b3
        have M3 := M3.below b3
        clear b3 u0 u1 u2 u3 u4 u5 u6 u7
        have u0 := M2.2.1 0 _ rfl
        have u1 := M2.2.1 1 _ rfl
        have u2 := M2.2.1 2 _ rfl
        have u3 := M2.2.1 3 _ rfl
        have u4 := M2.2.1 4 _ rfl
        have u5 := M2.2.1 5 _ rfl
        have u6 := M2.2.1 6 _ rfl
        have u7 := M2.2.1 7 _ rfl
        have m0 := M1.2.1 0 _ rfl
        have m1 := M1.2.1 1 _ rfl
        go_wp2_with fail
        refine (DO.out _ (S0.below d3) (S1.below d3)).mono ?_
        rintro e w4 ⟨b0, e0, b1, e1, rfl, s0, s1, b4, n0, n1⟩
        have hsz3 := M3.1
        have D3 := d3.size
        have k0 : NewB w.heap.size b0 := fun b off h => Nat.le_trans D3 (n0 b off h)
        have k1 : NewB w.heap.size b1 := fun b off h => Nat.le_trans D3 (n1 b off h)
        have n0 : ∀ b off, b0 = some ⟨b, off, none⟩ → b ≠ w.heap.size + 1 + 1 := fun b off h => by
          have := n0 b off h
          omega
        have n1 : ∀ b off, b1 = some ⟨b, off, none⟩ → b ≠ w.heap.size + 1 + 1 := fun b off h => by
          have := n1 b off h
          omega
        clear hsz3 D3
        have d4 := d3.trans (b4.mono d3.size)
        have M3 := M3.below b4
        clear b4 M1 M2 m0 m1 u0 u1 u2 u3 u4 u5 u6 u7
        have bA : Below w4.heap.size w4 (w4.alloc (.cells #[.int .i64 r.pa, .int .i64 r.pl, .int .i64 r.o, .slice b0 r.n0 e0, .int .i64 r.nx, .int .i64 r.md, .int .i64 r.pf, .slice b1 r.n1 e1] 35)) := below_box (Below.refl _ _)
        have MO := Mut.new w4 #[.int .i64 r.pa, .int .i64 r.pl, .int .i64 r.o, .slice b0 r.n0 e0, .int .i64 r.nx, .int .i64 r.md, .int .i64 r.pf, .slice b1 r.n1 e1] 35
        have d5 := d4.trans (bA.mono d4.size)
        have M3 := M3.below bA
        have s0 := s0.below bA
        have s1 := s1.below bA
        clear bA
        go_wp2_with fail
        generalize w4.alloc (.cells #[.int .i64 r.pa, .int .i64 r.pl, .int .i64 r.o, .slice b0 r.n0 e0, .int .i64 r.nx, .int .i64 r.md, .int .i64 r.pf, .slice b1 r.n1 e1] 35) = w5 at *
        generalize w4.heap.size = bo at *
        refine (GQ.out _ _ _ _ _ s0 s1).mono ?_
        rintro e w6 ⟨rfl, b6⟩
        have d6 := d5.trans (b6.mono d5.size)
        have M3 := M3.below b6
        have MO := MO.below b6
        have s0 := s0.below b6
        have s1 := s1.below b6
        clear b6 
        go_wp2_with (refine wpList_storeM (us := [.int .i64 0, .int .i64 0, .int .i64 0, .slice none 0 0, .int .i64 0, .int .i64 0, .int .i64 0, .slice none 0 0]) rfl rfl rfl rfl M3 rfl (by intro v hv; simp only [List.mem_cons, List.not_mem_nil, or_false] at hv; rcases hv with rfl | rfl | rfl | rfl | rfl | rfl | rfl | rfl <;> rfl) sizeRt7 ?_; intro w7 M7 o7)
        have r0 := M7.2.1 0 _ rfl
        have r1 := M7.2.1 1 _ rfl
        have r2 := M7.2.1 2 _ rfl
        have r3 := M7.2.1 3 _ rfl
        have r4 := M7.2.1 4 _ rfl
        have r5 := M7.2.1 5 _ rfl
        have r6 := M7.2.1 6 _ rfl
        have r7 := M7.2.1 7 _ rfl
        have D7 := d6.trans (o7.below_of (by omega) d6.size)
        refine bodyPost_ret (v := .tuple #[.agg #[.int .i64 0, .int .i64 0, .int .i64 0, .slice none 0 0, .int .i64 0, .int .i64 0, .int .i64 0, .slice none 0 0], .bool false]) (by simp [results, Try.results6, go_sem, r0, r1, r2, r3, r4, r5, r6, r7]) rfl (hF.out _ D7)
      | true =>
        rw [hq] at GQ
        have hF := hide (hYes.out hq)
        clear hYes hNo hq
        go_enter Try.func6, Try.ntmps6
        go_wp2_with fail
        generalize (((w.alloc (.cells #[.int .i64 k, .int .i64 n] 38)).alloc (.cells #[.int .i64 t.pa, .int .i64 t.pl, .int .i64 t.o, .slice a0 t.n0 c0, .int .i64 t.nx, .int .i64 t.md, .int .i64 t.pf, .slice a1 t.n1 c1] 35)).alloc (.cells #[.int .i64 0, .int .i64 0, .int .i64 0, .slice none 0 0, .int .i64 0, .int .i64 0, .int .i64 0, .slice none 0 0] 35)) = w1 at *
        refine (AK.out _).mono ?_
        rintro e w2 ⟨rfl, b2⟩
        have d2 := d1.trans (b2.mono d1.size)
        have M1 := M1.below b2
        have M2 := M2.below b2
        have M3 := M3.below b2
        clear b2 
        have u0 := M2.2.1 0 _ rfl
        have u1 := M2.2.1 1 _ rfl
        have u2 := M2.2.1 2 _ rfl
        have u3 := M2.2.1 3 _ rfl
        have u4 := M2.2.1 4 _ rfl
        have u5 := M2.2.1 5 _ rfl
        have u6 := M2.2.1 6 _ rfl
        have u7 := M2.2.1 7 _ rfl
        go_wp2_with fail
        refine (GR.out _ (S0.below d2) (S1.below d2)).mono ?_
        rintro e w3 ⟨rfl, b3⟩
        have d3 := d2.trans (b3.mono d2.size)
        have M1 := M1.below b3
        have M2 := M2.below b3
        have M3 := M3.below b3
        clear b3 u0 u1 u2 u3 u4 u5 u6 u7
        have u0 := M2.2.1 0 _ rfl
        have u1 := M2.2.1 1 _ rfl
        have u2 := M2.2.1 2 _ rfl
        have u3 := M2.2.1 3 _ rfl
        have u4 := M2.2.1 4 _ rfl
        have u5 := M2.2.1 5 _ rfl
        have u6 := M2.2.1 6 _ rfl
        have u7 := M2.2.1 7 _ rfl
        have m0 := M1.2.1 0 _ rfl
        have m1 := M1.2.1 1 _ rfl
        go_wp2_with fail
        refine (DO.out _ (S0.below d3) (S1.below d3)).mono ?_
        rintro e w4 ⟨b0, e0, b1, e1, rfl, s0, s1, b4, n0, n1⟩
        have hsz3 := M3.1
        have D3 := d3.size
        have k0 : NewB w.heap.size b0 := fun b off h => Nat.le_trans D3 (n0 b off h)
        have k1 : NewB w.heap.size b1 := fun b off h => Nat.le_trans D3 (n1 b off h)
        have n0 : ∀ b off, b0 = some ⟨b, off, none⟩ → b ≠ w.heap.size + 1 + 1 := fun b off h => by
          have := n0 b off h
          omega
        have n1 : ∀ b off, b1 = some ⟨b, off, none⟩ → b ≠ w.heap.size + 1 + 1 := fun b off h => by
          have := n1 b off h
          omega
        clear hsz3 D3
        have d4 := d3.trans (b4.mono d3.size)
        have M3 := M3.below b4
        clear b4 M1 M2 m0 m1 u0 u1 u2 u3 u4 u5 u6 u7
        have bA : Below w4.heap.size w4 (w4.alloc (.cells #[.int .i64 r.pa, .int .i64 r.pl, .int .i64 r.o, .slice b0 r.n0 e0, .int .i64 r.nx, .int .i64 r.md, .int .i64 r.pf, .slice b1 r.n1 e1] 35)) := below_box (Below.refl _ _)
        have MO := Mut.new w4 #[.int .i64 r.pa, .int .i64 r.pl, .int .i64 r.o, .slice b0 r.n0 e0, .int .i64 r.nx, .int .i64 r.md, .int .i64 r.pf, .slice b1 r.n1 e1] 35
        have d5 := d4.trans (bA.mono d4.size)
        have M3 := M3.below bA
        have s0 := s0.below bA
        have s1 := s1.below bA
        clear bA
        go_wp2_with fail
        generalize w4.alloc (.cells #[.int .i64 r.pa, .int .i64 r.pl, .int .i64 r.o, .slice b0 r.n0 e0, .int .i64 r.nx, .int .i64 r.md, .int .i64 r.pf, .slice b1 r.n1 e1] 35) = w5 at *
        generalize w4.heap.size = bo at *
        refine (GQ.out _ _ _ _ _ s0 s1).mono ?_
        rintro e w6 ⟨rfl, b6⟩
        have d6 := d5.trans (b6.mono d5.size)
        have M3 := M3.below b6
        have MO := MO.below b6
        have s0 := s0.below b6
        have s1 := s1.below b6
        clear b6 
        have q0 := MO.2.1 0 _ rfl
        have q1 := MO.2.1 1 _ rfl
        have q2 := MO.2.1 2 _ rfl
        have q3 := MO.2.1 3 _ rfl
        have q4 := MO.2.1 4 _ rfl
        have q5 := MO.2.1 5 _ rfl
        have q6 := MO.2.1 6 _ rfl
        have q7 := MO.2.1 7 _ rfl
        have hblk : ∀ b off, (b0 = some ⟨b, off, none⟩ ∨ b1 = some ⟨b, off, none⟩) → True := fun _ _ _ => trivial
        clear hblk
        go_wp2_with (refine wpList_storeM (us := [.int .i64 r.pa, .int .i64 r.pl, .int .i64 r.o, .slice b0 r.n0 e0, .int .i64 r.nx, .int .i64 r.md, .int .i64 r.pf, .slice b1 r.n1 e1]) rfl rfl rfl rfl M3 rfl (by intro v hv; simp only [List.mem_cons, List.not_mem_nil, or_false] at hv; rcases hv with rfl | rfl | rfl | rfl | rfl | rfl | rfl | rfl <;> rfl) sizeRt7 ?_; intro w7 M7 o7)
        have r_0 := M7.2.1 0 _ rfl
        have r_1 := M7.2.1 1 _ rfl
        have r_2 := M7.2.1 2 _ rfl
        have r_3 := M7.2.1 3 _ rfl
        have r_4 := M7.2.1 4 _ rfl
        have r_5 := M7.2.1 5 _ rfl
        have r_6 := M7.2.1 6 _ rfl
        have r_7 := M7.2.1 7 _ rfl
        have D7 := d6.trans (o7.below_of (by omega) d6.size)
        have s0 := s0.onlyB o7 n0
        have s1 := s1.onlyB o7 n1
        refine bodyPost_ret (v := .tuple #[.agg #[.int .i64 r.pa, .int .i64 r.pl, .int .i64 r.o, .slice b0 r.n0 e0, .int .i64 r.nx, .int .i64 r.md, .int .i64 r.pf, .slice b1 r.n1 e1], .bool true]) (by simp [results, Try.results6, go_sem, r_0, r_1, r_2, r_3, r_4, r_5, r_6, r_7]) rfl (hF.out _ _ _ _ _ D7 s0 s1 k0 k1)
end Go.Proofs.Ytflakkbodbnndaa
