/- Policies as the laws hand them over: their size, a copy, a comparison. -/
import Derived.Test.YtocgghhlfmgndaaLawT2
namespace Go.Proofs.Ytocgghhlfmgndaa
open Go.RowKit

theorem RowTO.low {x n b : Nat} {T : Nat → Tc} {w : World} (h : RowTO x n T w) (hb : b < x) (o : Nat) (v : Value) : RowTO x n T (w.setCell ⟨b, o, none⟩ v) := by
  intro i hi
  obtain ⟨p, q, r, h1, h2, h3, h4, c0, c1, c2, c3, c4, o1, o2, o3⟩ := h i hi
  refine ⟨p, q, r, h1, h2, h3, by simpa using h4, ?_, ?_, ?_, ?_, ?_, o1.other (by omega) _ _, o2.other (by omega) _ _, o3.other (by omega) _ _⟩
  · rw [World.cell?_setCell_other _ _ _ _ (by simp <;> omega)]; exact c0
  · rw [World.cell?_setCell_other _ _ _ _ (by simp <;> omega)]; exact c1
  · rw [World.cell?_setCell_other _ _ _ _ (by simp <;> omega)]; exact c2
  · rw [World.cell?_setCell_other _ _ _ _ (by simp <;> omega)]; exact c3
  · rw [World.cell?_setCell_other _ _ _ _ (by simp <;> omega)]; exact c4
theorem FreeC.low {x n b : Nat} {w : World} (h : FreeC x n w) (hb : b < x) (o : Nat) (v : Value) : FreeC x n (w.setCell ⟨b, o, none⟩ v) := by
  refine ⟨by simpa using h.1, fun q hq => ?_⟩
  obtain ⟨⟨u, hu⟩, hz⟩ := h.2 q hq
  exact ⟨⟨u, by rw [World.cell?_setCell_other _ _ _ _ (by simp <;> omega)]; exact hu⟩, by simpa [go_sem] using hz⟩
set_option maxRecDepth 100000 in
set_option maxHeartbeats 800000 in
theorem w_szPolicy (a : Option Addr) (n c : Nat) (acc : Bool) (T : Nat → Tc) (m : Int) (w : World) (hn : n ≤ maxLen) (hx : MaxT n T) (hm : m ≤ 1048576) (hm0 : 0 ≤ m) (hR : RowT a n T w) :
    Calls Try.prog 15 #[.agg #[.slice a n c, .bool acc], .int .i64 m] w fun e w' => e = .returned (.int .i64 (if (n : Int) + (totT T n : Int) ≤ m then m - (n : Int) - (totT T n : Int) else -1)) ∧ Below w.heap.size w w' := by
  have s0 := hide (fun w R => w_szTermS a n c T m w hn hx hm hm0 R)
  have d0 : Below w.heap.size w (w.alloc (.cells #[.slice a n c, .bool acc] 40)) := below_box (Below.refl _ _)
  generalize totT T n = q at *
  by_cases h : (n : Int) + (q : Int) ≤ m
  · rw [if_pos h] at s0 ⊢
    have q0 : ¬ (m - (n : Int) - (q : Int) < 0) := by omega
    clear h hm hm0 hn
    go_enter Try.func15, Try.ntmps15
    go_wp2_with fail
    refine (s0.out _ (hR.below d0)).mono ?_
    rintro e w1 ⟨rfl, b1⟩
    go_wp2_with fail
    go_ret
    exact ⟨rfl, d0.trans (b1.mono d0.size)⟩
  · rw [if_neg h] at s0 ⊢
    clear h hm hm0 hn
    go_enter Try.func15, Try.ntmps15
    go_wp2_with fail
    refine (s0.out _ (hR.below d0)).mono ?_
    rintro e w1 ⟨rfl, b1⟩
    go_wp2_with fail
    go_ret
    exact ⟨rfl, d0.trans (b1.mono d0.size)⟩
set_option maxRecDepth 100000 in
set_option maxHeartbeats 1600000 in
theorem w_toPolicy (a : Option Addr) (n c : Nat) (acc : Bool) (T : Nat → Tc) (w : World) (hn : n ≤ 1048576) (hl : LowT n T) (hR : RowT a n T w) :
    Calls Try.prog 17 #[.agg #[.slice a n c, .bool acc]] w fun e w' => ∃ x, e = .returned (.agg #[.slice (some ⟨x, 0, none⟩) n n, .bool acc]) ∧ w.heap.size ≤ x ∧ RowTO x n T w' ∧ FreeC x (n * 5) w' ∧ Below w.heap.size w w' := by
  have s0 := hide (fun w R => w_toTermS a n c T w hn hl R)
  have M0 := ((Mut.new w #[.slice a n c, .bool acc] 40).alloc (.cells #[.slice none 0 0, .bool false] 45)).alloc (.cells #[.slice none 0 0, .bool false] 45)
  have M1 := (Mut.new (w.alloc (.cells #[.slice a n c, .bool acc] 40)) #[.slice none 0 0, .bool false] 45).alloc (.cells #[.slice none 0 0, .bool false] 45)
  have M2 := Mut.new ((w.alloc (.cells #[.slice a n c, .bool acc] 40)).alloc (.cells #[.slice none 0 0, .bool false] 45)) #[.slice none 0 0, .bool false] 45
  have d0 : Below w.heap.size w (((w.alloc (.cells #[.slice a n c, .bool acc] 40)).alloc (.cells #[.slice none 0 0, .bool false] 45)).alloc (.cells #[.slice none 0 0, .bool false] 45)) := below_box3 (Below.refl _ _)
  simp only [World.size_alloc] at M1 M2
  go_enter Try.func17, Try.ntmps17
  go_wp2_with fail
  generalize ((w.alloc (.cells #[.slice a n c, .bool acc] 40)).alloc (.cells #[.slice none 0 0, .bool false] 45)).alloc (.cells #[.slice none 0 0, .bool false] 45) = w0 at *
  refine (s0.out _ (hR.below d0)).mono ?_
  rintro e w1 ⟨rfl, RO, FC, b1⟩
  have hx0 := M2.1
  have M0 := M0.below b1
  have M1 := M1.below b1
  have M2 := M2.below b1
  have d1 := d0.trans (b1.mono d0.size)
  clear b1 d0
  generalize w0.heap.size = x at *
  have u0 := M0.2.1 0 _ rfl
  have u1 := M0.2.1 1 _ rfl
  have v0 := M2.2.1 0 _ rfl
  have v1 := M2.2.1 1 _ rfl
  have z0 := M2.2.2 0 (by simp)
  have z1 := M2.2.2 1 (by simp)
  have y0 := M1.2.1 0 _ rfl
  have y1 := M1.2.1 1 _ rfl
  have f0 := M1.2.2 0 (by simp)
  have f1 := M1.2.2 1 (by simp)
  clear M0 M1 M2
  go_wp2_with fail
  exact bodyPost_ret (v := .agg #[.slice (some ⟨x, 0, none⟩) n n, .bool acc]) (by simp [results, Try.results17, go_sem, *]) rfl ⟨x, rfl, by omega, by
    refine RowTO.low (RowTO.low (RowTO.low (RowTO.low RO ?_ _ _) ?_ _ _) ?_ _ _) ?_ _ _ <;> omega, by
    refine FreeC.low (FreeC.low (FreeC.low (FreeC.low FC ?_ _ _) ?_ _ _) ?_ _ _) ?_ _ _ <;> omega, by
    refine Below.setCell (Below.setCell (Below.setCell (Below.setCell d1 ?_ _) ?_ _) ?_ _) ?_ _ <;> (simp; try omega)⟩
set_option maxRecDepth 100000 in
set_option maxHeartbeats 800000 in
theorem w_eqPolicy (a a' : Option Addr) (n c c' : Nat) (acc : Bool) (T : Nat → Tc) (w : World) (hn : n ≤ 1048576) (hl : LowT n T) (hR : RowT a n T w) (hQ : RowT a' n T w) :
    Calls Try.prog 19 #[.agg #[.slice a n c, .bool acc], .agg #[.slice a' n c', .bool acc]] w fun e w' => e = .returned (.bool true) ∧ Below w.heap.size w w' := by
  have s0 := hide (fun w R Q => w_eqTermS a a' n c c' T w hn hl R Q)
  have k0 : (acc != acc) = false := by simp
  have M0 := (Mut.new w #[.slice a n c, .bool acc] 45).alloc (.cells #[.slice a' n c', .bool acc] 45)
  have M1 := Mut.new (w.alloc (.cells #[.slice a n c, .bool acc] 45)) #[.slice a' n c', .bool acc] 45
  have d0 : Below w.heap.size w ((w.alloc (.cells #[.slice a n c, .bool acc] 45)).alloc (.cells #[.slice a' n c', .bool acc] 45)) := below_box2 (Below.refl _ _)
  simp only [World.size_alloc] at M1
  clear hn hl
  go_enter Try.func19, Try.ntmps19
  go_wp2_with fail
  generalize (w.alloc (.cells #[.slice a n c, .bool acc] 45)).alloc (.cells #[.slice a' n c', .bool acc] 45) = w1 at *
  refine (s0.out _ (hR.below d0) (hQ.below d0)).mono ?_
  rintro e w2 ⟨rfl, b2⟩
  have M0 := M0.below b2
  have M1 := M1.below b2
  have d2 := d0.trans (b2.mono d0.size)
  have u1 := M0.2.1 1 _ rfl
  have v1 := M1.2.1 1 _ rfl
  go_wp2_with fail
  go_ret
  exact ⟨rfl, d2⟩
end Go.Proofs.Ytocgghhlfmgndaa
