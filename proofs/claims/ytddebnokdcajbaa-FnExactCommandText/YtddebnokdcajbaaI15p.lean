/- CommandText of the program. -/
import Derived.Test.YtddebnokdcajbaaTxt15
import Derived.Test.YtddebnokdcajbaaI15a
namespace Go.Proofs.Ytddebnokdcajbaa
open Go.RowKit

set_option maxRecDepth 100000 in
set_option maxHeartbeats 800000 in
theorem i_commandTextS (n : Nat) (p : Nat → ByteArray) (v : ByteArray) (a1 : Option Addr) (c1 : Nat) (w : World) (hc : n ≤ c1) (R : RowStr a1 n p w) :
    Calls Try.prog 7 #[.agg #[.bool true, .slice a1 n c1, .string v]] w fun e w' => e = .returned (.tuple #[.string (cmdA true n p v).1, .bool (cmdA true n p v).2]) ∧ Below w.heap.size w w' := by
  have W := hide (fun w R => i_isWay a1 n c1 p w R)
  have V := hide (fun w => i_isWord v w)
  have J := hide (fun w h R => i_join a1 n c1 p w h hc R)
  have hY : Hid (Pw n p → Wd v → cmdA true n p v = (txtI true n p v, true)) := fun h k => if_pos (tB_t ⟨h, Or.inl ⟨rfl, k⟩⟩)
  have hZ : Hid (¬ (Pw n p ∧ Wd v) → cmdA true n p v = (⟨#[]⟩, false)) := fun h => if_neg (by simp only [Bool.not_eq_true]; exact tB_f (fun k => h ⟨k.1, by have := k.2; simpa using this⟩))
  generalize cmdA true n p v = GA at *
  have M0 := Mut.new w #[.bool true, .slice a1 n c1, .string v] 28
  have d0 : Below w.heap.size w (w.alloc (.cells #[.bool true, .slice a1 n c1, .string v] 28)) := below_box (Below.refl _ _)
  replace R := R.below d0
  have u0 := M0.2.1 0 _ rfl
  have u1 := M0.2.1 1 _ rfl
  have u2 := M0.2.1 2 _ rfl
  go_enter Try.func7, Try.ntmps7
  go_wp2_with fail
  generalize w.alloc (.cells #[.bool true, .slice a1 n c1, .string v] 28) = w1 at *
  refine (W.out _ R).mono ?_
  rintro e w2 ⟨rfl, b2⟩
  have d2 := below_step d0 b2
  replace M0 := M0.below b2
  replace R := R.below b2
  clear b2 d0 u0 u1 u2
  have u0 := M0.2.1 0 _ rfl
  have u1 := M0.2.1 1 _ rfl
  have u2 := M0.2.1 2 _ rfl
  by_cases hp : Pw n p
  case neg =>
    rw [tB_f hp]
    have hE := hide (hZ.out (fun h => hp h.1))
    clear hY hZ J V W
    go_wp2_with fail
    exact bodyPost_ret (v := .tuple #[.string GA.1, .bool GA.2]) (by rw [hE.out]; simp [results, Try.results7, go_sem]) rfl ⟨rfl, d2⟩
  rw [tB_t hp]
  have J := hide (fun w R => J.out w hp R)
  go_wp2_with fail
  refine (V.out _).mono ?_
  rintro e w3 ⟨rfl, b3⟩
  have d3 := below_step d2 b3
  replace M0 := M0.below b3
  replace R := R.below b3
  clear b3 d2 u0 u1 u2
  have u0 := M0.2.1 0 _ rfl
  have u1 := M0.2.1 1 _ rfl
  have u2 := M0.2.1 2 _ rfl
  by_cases hv : Wd v
  case neg =>
    rw [tB_f hv]
    have hE := hide (hZ.out (fun h => hv h.2))
    clear hY hZ J V W
    go_wp2_with fail
    exact bodyPost_ret (v := .tuple #[.string GA.1, .bool GA.2]) (by rw [hE.out]; simp [results, Try.results7, go_sem]) rfl ⟨rfl, d3⟩
  rw [tB_t hv]
  have hE := hide (hY.out hp hv)
  clear hY hZ
  unfold txtI at hE
  rw [if_pos rfl] at hE
  have hbx := M0.1
  have hjs : (joinB n p).size ≤ 100 := by have h := joinB_len hp; rw [Go.Lib.size_eq]; exact h
  have hvs : v.size ≤ 8 := hv.2.1
  clear W V
  generalize joinB n p = JB at *
  go_wp2_with fail
  first
    | (refine (J.out _ R).mono ?_; rintro e w4 ⟨rfl, b4⟩; have d4 := below_step d3 b4)
    | go_region_with (go_at_call 15; refine (J.out _ (by first | with_reducible exact R | exact R.below (Below.refl _ _).drew)).mono ?_; rintro e w4 ⟨rfl, b4⟩; have d4 : Below w.heap.size w w4 := (by first | exact below_step d3 b4 | exact below_step d3.drew b4); have v2 : w4.cell? ⟨w.heap.size, 2, none⟩ = some (.string v) := (by first | exact ((bcell b4).1 _ _ hbx).trans u2 | exact ((bcell b4).1 ⟨w.heap.size, 2, none⟩ _ (by simpa using hbx)).trans u2))
  all_goals go_wp2_with fail
  all_goals first | exact bodyPost_ret (v := .tuple #[.string GA.1, .bool GA.2]) (by rw [hE.out]; simp [results, Try.results7, go_sem]) rfl ⟨rfl, by first | exact d4 | exact d4.drew⟩
set_option maxRecDepth 100000 in
set_option maxHeartbeats 800000 in
theorem i_commandTextD (n : Nat) (p : Nat → ByteArray) (v : ByteArray) (a1 : Option Addr) (c1 : Nat) (w : World) (hc : n ≤ c1) (R : RowStr a1 n p w) :
    Calls Try.prog 7 #[.agg #[.bool false, .slice a1 n c1, .string v]] w fun e w' => e = .returned (.tuple #[.string (cmdA false n p v).1, .bool (cmdA false n p v).2]) ∧ Below w.heap.size w w' := by
  have W := hide (fun w R => i_isWay a1 n c1 p w R)
  have V := hide (fun w => i_isWord v w)
  have J := hide (fun w h R => i_join a1 n c1 p w h hc R)
  have hY : Hid (Pw n p → v.toList = [] → cmdA false n p v = (txtI false n p v, true)) := fun h k => if_pos (tB_t ⟨h, Or.inr ⟨rfl, k⟩⟩)
  have hZ : Hid (¬ (Pw n p ∧ v.toList = []) → cmdA false n p v = (⟨#[]⟩, false)) := fun h => if_neg (by simp only [Bool.not_eq_true]; exact tB_f (fun k => h ⟨k.1, by have := k.2; simpa using this⟩))
  generalize cmdA false n p v = GA at *
  have M0 := Mut.new w #[.bool false, .slice a1 n c1, .string v] 28
  have d0 : Below w.heap.size w (w.alloc (.cells #[.bool false, .slice a1 n c1, .string v] 28)) := below_box (Below.refl _ _)
  replace R := R.below d0
  have u0 := M0.2.1 0 _ rfl
  have u1 := M0.2.1 1 _ rfl
  have u2 := M0.2.1 2 _ rfl
  go_enter Try.func7, Try.ntmps7
  go_wp2_with fail
  generalize w.alloc (.cells #[.bool false, .slice a1 n c1, .string v] 28) = w1 at *
  refine (W.out _ R).mono ?_
  rintro e w2 ⟨rfl, b2⟩
  have d2 := below_step d0 b2
  replace M0 := M0.below b2
  replace R := R.below b2
  clear b2 d0 u0 u1 u2
  have u0 := M0.2.1 0 _ rfl
  have u1 := M0.2.1 1 _ rfl
  have u2 := M0.2.1 2 _ rfl
  by_cases hp : Pw n p
  case neg =>
    rw [tB_f hp]
    have hE := hide (hZ.out (fun h => hp h.1))
    clear hY hZ J V W
    go_wp2_with fail
    exact bodyPost_ret (v := .tuple #[.string GA.1, .bool GA.2]) (by rw [hE.out]; simp [results, Try.results7, go_sem]) rfl ⟨rfl, d2⟩
  rw [tB_t hp]
  have J := hide (fun w R => J.out w hp R)
  by_cases kN : v.toList = []
  case neg =>
    have kE : v.toList.isEmpty = false := by simpa using kN
    have hE := hide (hZ.out (fun h => kN h.2))
    clear hY hZ J V W
    go_wp2_with fail
    exact bodyPost_ret (v := .tuple #[.string GA.1, .bool GA.2]) (by rw [hE.out]; simp [results, Try.results7, go_sem]) rfl ⟨rfl, d2⟩
  have kE : v.toList.isEmpty = true := by simpa using kN
  have hE := hide (hY.out hp kN)
  clear hY hZ
  unfold txtI at hE
  rw [if_neg (by decide)] at hE
  have hbx := M0.1
  have hjs : (joinB n p).size ≤ 100 := by have h := joinB_len hp; rw [Go.Lib.size_eq]; exact h
  skip
  clear W V
  generalize joinB n p = JB at *
  go_wp2_with fail
  first
    | (refine (J.out _ R).mono ?_; rintro e w4 ⟨rfl, b4⟩; have d4 := below_step d2 b4)
    | go_region_with (go_at_call 15; refine (J.out _ (by first | with_reducible exact R | exact R.below (Below.refl _ _).drew)).mono ?_; rintro e w4 ⟨rfl, b4⟩; have d4 : Below w.heap.size w w4 := (by first | exact below_step d2 b4 | exact below_step d2.drew b4); have v2 : w4.cell? ⟨w.heap.size, 2, none⟩ = some (.string v) := (by first | exact ((bcell b4).1 _ _ hbx).trans u2 | exact ((bcell b4).1 ⟨w.heap.size, 2, none⟩ _ (by simpa using hbx)).trans u2))
  all_goals go_wp2_with fail
  all_goals first | exact bodyPost_ret (v := .tuple #[.string GA.1, .bool GA.2]) (by rw [hE.out]; simp [results, Try.results7, go_sem]) rfl ⟨rfl, by first | exact d4 | exact d4.drew⟩
end Go.Proofs.Ytddebnokdcajbaa
