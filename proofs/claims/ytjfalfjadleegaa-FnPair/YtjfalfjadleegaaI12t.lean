/- One message that comes to a side of the program. -/
import Derived.Test.YtjfalfjadleegaaI12s
namespace Go.Proofs.Ytjfalfjadleegaa
open Go.RowKit

set_option maxRecDepth 100000 in
set_option maxHeartbeats 3200000 in
theorem i_hears0 (base b1 b2 : Nat) (x : Se) (a : Int) (T1 : List Int) (y : Se) (b c2 : Int) (T2 : List Int) (w : World) (l1 : T1.length ≤ 1000) (h : PI 3 base b1 b2 x a (T1.length : Int) T1 y b c2 T2 w) :
    Calls Try.prog 13 #[.pointer (some ⟨b1, 0, none⟩), .pointer (some ⟨b2, 0, none⟩)] w fun e w' => e = .returned (.tuple #[]) ∧ w' = w := by
  obtain ⟨h1, h2, h3, h4, v1, v2, m1, m2, o1, o2, hn⟩ := h
  obtain ⟨va, vc, rfl, _⟩ := ownN_row o1
  have c7 := m1.2.1 7 _ rfl
  have c6 := m1.2.1 6 _ rfl
  have LD := hide (fun w h => i_atLoad b1 7 (T1.length : Int) w h)
  have hl : (T1.length : Int) ≤ 1000 := by omega
  clear m1 m2 o1 o2 hn
  go_enter Try.func13, Try.ntmps13
  go_wp2_with fail
  refine (LD.out _ c7).mono ?_
  rintro e w1 ⟨rfl, hw1⟩
  rw [hw1]; clear hw1 w1
  go_wp2_with fail
  exact bodyPost_ret (v := .tuple #[]) (by simp [results, Try.results13, go_sem]) rfl ⟨rfl, rfl⟩
set_option maxRecDepth 100000 in
set_option maxHeartbeats 6400000 in
theorem i_hears1 (base b1 b2 : Nat) (x : Se) (a : Int) (c : Nat) (T1 : List Int) (y : Se) (b c2 : Int) (T2 : List Int) (w : World) (hG : GS x) (l1 : T1.length ≤ 1000) (l2 : T2.length ≤ 1000) (hc : c < T1.length) (h : PI 3 base b1 b2 x a (c : Int) T1 y b c2 T2 w) :
    Calls Try.prog 13 #[.pointer (some ⟨b1, 0, none⟩), .pointer (some ⟨b2, 0, none⟩)] w fun e w' => e = .returned (.tuple #[]) ∧ PI 3 base b1 b2 (stp x (evK (T1.getD c 0)) (evN (T1.getD c 0) b)).1 a ((c : Int) + 1) T1 y b c2 (T2 ++ tl12 (stp x (evK (T1.getD c 0)) (evN (T1.getD c 0) b)).2) w' ∧ PK base b1 b2 w w' := by
  obtain ⟨h1, h2, h3, h4, v1, v2, m1, m2, o1, o2, hn⟩ := h
  have l1i : (T1.length : Int) ≤ 1000 := by omega
  have hci : (c : Int) < (T1.length : Int) := by omega
  have hcn : ((c : Int) == (T1.length : Int)) = false := by simp; omega
  have c7 := m1.2.1 7 _ rfl
  have c7f := m1.2.2 7 (by simp)
  have c6 := m1.2.1 6 _ rfl
  have LD := hide (fun w h => i_atLoad b1 7 (c : Int) w h)
  have AD := hide (fun w h k => i_atAdd b1 7 (c : Int) w (by omega) (by omega) h k)
  have on : Only b1 w (w.setCell ⟨b1, 7, none⟩ (.int .i64 ((c : Int) + 1))) := (Only.refl b1 w).setCell 7 _
  have M1 := m1.set 7 (.int .i64 ((c : Int) + 1))
  simp only [List.set_cons_zero, List.set_cons_succ] at M1
  have PG : PI 3 base b1 b2 x a ((c : Int) + 1) T1 y b c2 T2 (w.setCell ⟨b1, 7, none⟩ (.int .i64 ((c : Int) + 1))) := ⟨h1, h2, h3, by simpa using h4, v1, v2, M1, m2.only on (Ne.symm h1), own12_off o1 h2 on, own12_off o2 h2 on, hn⟩
  have KG : PK base b1 b2 w (w.setCell ⟨b1, 7, none⟩ (.int .i64 ((c : Int) + 1))) := OnlyP.of_only on (.inl rfl)
  have M2 := m2.only on (Ne.symm h1)
  have O1 := own12_off o1 h2 on
  obtain ⟨g, cap, hv1, _⟩ : ∃ g cap, v1 = .slice (some ⟨g, 0, none⟩) T1.length cap ∧ True := by
    rcases o1.2 with ⟨_, e⟩ | ⟨g, cap, cur, e, _⟩
    · omega
    · exact ⟨g, cap, e, trivial⟩
  subst hv1
  have hel := ownN_at O1 hc
  have g6 := M1.2.1 6 _ rfl
  have g5 := M2.2.1 5 _ rfl
  have EV := hide (fun w => i_eventOf (T1.getD c 0) b w)
  have MT := hide (fun w h => i_meetsP base b1 b2 x a ((c : Int) + 1) T1 y b c2 T2 (evK (T1.getD c 0)) (evN (T1.getD c 0) b) w hG l2 h)
  generalize T1.getD c 0 = mm at *
  generalize evK mm = ek at *
  generalize evN mm b = en at *
  generalize stp x ek en = RR at *
  have PG' := hide PG
  have KG' := hide KG
  clear hG m1 m2 o1 o2 hn on M1 M2 O1 PG KG
  go_enter Try.func13, Try.ntmps13
  go_wp2_with fail
  refine (LD.out _ c7).mono ?_
  rintro e w1 ⟨rfl, hw1⟩
  rw [hw1]; clear hw1 w1
  go_wp2_with fail
  refine (AD.out _ c7 c7f).mono ?_
  rintro e w1 ⟨rfl, hw1⟩
  rw [hw1]; clear hw1 w1
  go_upto_region 3 with fail
  clear c7 c7f c6
  generalize w.setCell ⟨b1, 7, none⟩ (.int .i64 ((c : Int) + 1)) = G at *
  have dZ : Below G.heap.size G G := Below.refl _ _
  go_region_with (first | (go_at_call 23; refine (EV.out _).mono ?_; rintro e w1 ⟨rfl, b1'⟩; have d1 : Below G.heap.size G w1 := (by first | with_reducible exact below_step dZ b1' | with_reducible exact below_step dZ.drew b1' | with_reducible exact below_step dZ.drew.drew b1')) | (go_at_call 20; refine (MT.out _ (by first | with_reducible exact PG'.out.below d1 | with_reducible exact PG'.out.below d1.drew | with_reducible exact PG'.out.below d1.drew.drew)).mono ?_; rintro e w2 ⟨rfl, hP, hK⟩))
  all_goals go_wp2_with fail
  all_goals go_end0
  all_goals first | with_reducible exact ⟨rfl, hP, KG'.out.trans ((OnlyP.of_below d1).trans hK)⟩ | with_reducible exact ⟨rfl, hP, KG'.out.trans ((OnlyP.of_below d1.drew).trans hK)⟩ | with_reducible exact ⟨rfl, hP, KG'.out.trans ((OnlyP.of_below d1.drew.drew).trans hK)⟩ | with_reducible exact ⟨rfl, hP.below (Below.refl _ _).drew, (KG'.out.trans ((OnlyP.of_below d1).trans hK)).trans (OnlyP.of_below (Below.refl _ _).drew)⟩ | with_reducible exact ⟨rfl, hP.below (Below.refl _ _).drew, (KG'.out.trans ((OnlyP.of_below d1.drew).trans hK)).trans (OnlyP.of_below (Below.refl _ _).drew)⟩
end Go.Proofs.Ytjfalfjadleegaa
